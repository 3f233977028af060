/- Texts joined: ReadHd, RegU, GetHdI, NumS, GetBig, ReadByL, HeadRdL, LongNum, Pad, BodyK, LongMath, LongI, ReadLong. -/
import Derived.Test.YtgpgkgahbkmdiabGreatDoorEntAt
import Derived.BigRegion
import Derived.Test.YtgpgkgahbkmdiabGreatDoorNum
import Derived.Test.YtgpgkgahbkmdiabGreatDoorIn
import Derived.Test.YtgpgkgahbkmdiabGreatDoorJL1
/- Contract of impl.readHead. -/
namespace Go.Proofs.YtgpgkgahbkmdiabGreatDoor
open Go.ChangeShapes Go.WideShapes Go.ChangeAt Go.RowKit

def ok5 (l : List UInt8) : Nat → Bool
  | 0 => true
  | i + 1 => ok5 l i && fnumOk (fW l (i + 1))
def headOk (l : List UInt8) : Bool := ok5 l 5 && decide (fnumv (fW l 4) ≤ 3000)
def okCells (l : List UInt8) : Array Value := #[.int .i64 0, .string (pathL l), .string (cutv (fW l 8)), .int .i64 (fnumv (fW l 1)), .int .i64 (fnumv (fW l 2)), .int .i64 (fnumv (fW l 3)), .int .i64 (fnumv (fW l 5)), .string (cutv (fW l 10)), .string (cutv (fW l 11)), .string ⟨#[]⟩, .string (fW l 7), .int .i64 (fnumv (fW l 4))]
theorem ok5_bad {l : List UInt8} {i : Nat} (hi : i < 5) (h : fnumOk (fW l (i + 1)) = false) : headOk l = false := by
  have key : ∀ n, i < n → ok5 l n = false := by
    intro n
    induction n with
    | zero => intro h; omega
    | succ n ih =>
      intro hn
      by_cases q : i = n
      · subst q; rw [ok5, h, Bool.and_false]
      · rw [ok5, ih (by omega), Bool.false_and]
  rw [headOk, key 5 hi, Bool.false_and]
def entL (l : List UInt8) : Ent := ⟨0, pathL l, cutv (fW l 8), fnumv (fW l 1), fnumv (fW l 2), fnumv (fW l 3), fnumv (fW l 5), cutv (fW l 10), cutv (fW l 11), ⟨#[]⟩⟩
def againOk (l : List UInt8) : Bool := decide (putHeadv (withKind (entL l) (fW l 7)) (fW l 7) (fnumv (fW l 4)) = ⟨l.toArray⟩)
def readV (s : ByteArray) : Value :=
  if s.size < 512 then badHd 1 else if sumOkv s = false then badHd 2 else if headOk (lOf s) = false then badHd 3
  else if againOk (lOf s) = true then .tuple #[.agg (okCells (lOf s)), .nilIface] else badHd 4
def okO (l : List UInt8) (k : Nat) : Bool := fnumOk (fW l k)
def valO (l : List UInt8) (k : Nat) : Int := fnumv (fW l k)
theorem ok5_eq (l : List UInt8) : ∀ n, ok5G (okO l) n = ok5 l n
  | 0 => rfl
  | n + 1 => by rw [ok5G, ok5, ok5_eq l n]; rfl
theorem headOk_eq (l : List UInt8) : headOkG (okO l) (valO l) = headOk l := by rw [headOkG, headOk, ok5_eq]; rfl
def hdO (l : List UInt8) : ByteArray := putHeadv (withKind (entL l) (fW l 7)) (fW l 7) (fnumv (fW l 4))
theorem readV_eq (s : ByteArray) : readVG s (okO (lOf s)) (valO (lOf s)) (hdO (lOf s)) = readV s := by
  unfold readVG readV
  rw [headOk_eq, againOk, hdO]
  simp only [decide_eq_true_eq]
  rfl
theorem readV_parts (s : ByteArray) : ∃ OC ev, readV s = .tuple #[.agg OC, ev] ∧ OC.size = 12 ∧ OC.all (·.oneCell') = true := by
  unfold readV
  have hz : zHead.size = 12 ∧ zHead.all (·.oneCell') = true := ⟨rfl, by simp [zHead, Value.oneCell']⟩
  split
  · exact ⟨_, _, rfl, hz.1, hz.2⟩
  · split
    · exact ⟨_, _, rfl, hz.1, hz.2⟩
    · split
      · exact ⟨_, _, rfl, hz.1, hz.2⟩
      · split
        · exact ⟨_, _, rfl, rfl, by simp [okCells, Value.oneCell']⟩
        · exact ⟨_, _, rfl, hz.1, hz.2⟩
theorem kindOfI_any (fl : ByteArray) (w : World) : Calls Tryz.prog 58 #[.string fl] w fun e w' => e = .returned (.int .i64 (max (kindv fl) 0)) ∧ w = w' := by
  have H := Lib.hid (fun w => kind_impl fl w)
  generalize kindv fl = k at *
  go_enter Tryz.func58, Tryz.ntmps58
  go_wp2_with fail
  refine (H.out _).mono ?_
  rintro e w1 ⟨rfl, rfl⟩
  go_wp2
  go_ret
  exact ⟨rfl, rfl⟩
theorem withKind_max (p l : ByteArray) (m u g t : Int) (us gr b fl : ByteArray) : withKind ⟨0, p, l, m, u, g, t, us, gr, b⟩ fl = ⟨max (kindv fl) 0, p, l, m, u, g, t, us, gr, b⟩ := by
  rw [withKind]
  congr 1
  split <;> omega
set_option maxHeartbeats 1600000 in
set_option maxRecDepth 8000 in
theorem again_impl (p l : ByteArray) (m u g t : Int) (us gr b fl : ByteArray) (sz : Int) (w : World) (hp : p.size ≤ 4194304) (hl : l.size ≤ 4194304) (hus : us.size ≤ 4194304) (hgr : gr.size ≤ 4194304) (hT : Tabs w) (hF : FW w) :
    Calls Tryz.prog 57 #[.agg #[.int .i64 0, .string p, .string l, .int .i64 m, .int .i64 u, .int .i64 g, .int .i64 t, .string us, .string gr, .string b, .string fl, .int .i64 sz]] w fun e w' => e = .returned (.string (putHeadv (withKind ⟨0, p, l, m, u, g, t, us, gr, b⟩ fl) fl sz)) ∧ Below w.heap.size w w' := by
  have H1 := Lib.hid (fun w => kindOfI_any fl w)
  rw [withKind_max]
  generalize max (kindv fl) 0 = kk at *
  have H2 := Lib.hid (fun w hT hF => putHead_impl kk p l m u g t us gr b fl sz w hp hl hus hgr hT hF)
  generalize putHeadv ⟨kk, p, l, m, u, g, t, us, gr, b⟩ fl sz = r at *
  have HT := Lib.hid hT
  have HF := Lib.hid hF
  have E0 := Lib.hid (HdO.new w ⟨0, p, l, m, u, g, t, us, gr, b⟩ fl sz)
  have B0 := Lib.hid ((Below.refl w.heap.size w).alloc (Nat.le_refl _) (.cells (hdCells ⟨0, p, l, m, u, g, t, us, gr, b⟩ fl sz).toArray 37))
  simp only [hdCells] at E0 B0
  have hs0 : (w.alloc (.cells #[.int .i64 0, .string p, .string l, .int .i64 m, .int .i64 u, .int .i64 g, .int .i64 t, .string us, .string gr, .string b, .string fl, .int .i64 sz] 37)).heap.size = w.heap.size + 1 := by simp
  clear hT hF hp hl hus hgr
  go_enter Tryz.func57, Tryz.ntmps57
  go_wp2_with fail
  generalize w.alloc (.cells #[.int .i64 0, .string p, .string l, .int .i64 m, .int .i64 u, .int .i64 g, .int .i64 t, .string us, .string gr, .string b, .string fl, .int .i64 sz] 37) = w1 at *
  have X1 := Lib.hid (EntO.new w1 ⟨0, p, l, m, u, g, t, us, gr, b⟩)
  have D1 := (Below.refl w1.heap.size w1).alloc (Nat.le_refl _) (.cells (Ent.cells ⟨0, p, l, m, u, g, t, us, gr, b⟩).toArray 23)
  have E1 := Lib.hid (E0.out.below D1 E0.out.lt)
  have B1 := Lib.hid (btE B0.out D1)
  rw [hs0] at X1
  simp only [Ent.cells] at X1 E1 B1 D1
  generalize w1.alloc (.cells #[.int .i64 0, .string p, .string l, .int .i64 m, .int .i64 u, .int .i64 g, .int .i64 t, .string us, .string gr, .string b] 23) = w2 at *
  clear hs0 D1 E0 B0
  refine (H1.out _).mono ?_
  rintro e w3 ⟨rfl, rfl⟩
  have hfz := X1.out.fz 0
  obtain ⟨c0, c1, c2, c3, c4, c5, c6, c7, c8, c9⟩ := X1.out.at.zero
  obtain ⟨c10, c11⟩ := E1.out.two
  have X2 := Lib.hid (X1.out.set (e' := ⟨kk, p, l, m, u, g, t, us, gr, b⟩) 0 (.int .i64 kk) rfl)
  have B2 := Lib.hid (B1.out.setCell (p := ⟨w.heap.size + 1, 0, none⟩) (by simp) (.int .i64 kk))
  go_wp2_with fail
  refine (H2.out _ (HT.out.below B2.out) (HF.out.below B2.out)).mono ?_
  rintro e w4 ⟨rfl, hb⟩
  go_wp2
  go_ret
  exact ⟨rfl, btE B2.out hb⟩
theorem okCells_eq (l : List UInt8) : okCellsG l (valO l) = okCells l := rfl
theorem pathL_small (l : List UInt8) : (pathL l).size ≤ 311 := by
  have a := fW_small l 0
  have b := fW_small l 14
  unfold pathL
  split
  · omega
  · rw [ByteArray.size_append, ByteArray.size_append]; have : (⟨#[47]⟩ : ByteArray).size = 1 := rfl; omega
theorem readBy_oct (s : ByteArray) (w : World) (hs : s.size ≤ 1048576) (hT : Tabs w) (hF : FW w) :
    Calls Tryz.prog 55 #[.string s, .func (.func 56) #[] #[], .func (.func 57) #[] #[]] w fun e w' => e = .returned (readV s) ∧ Below w.heap.size w w' := by
  rw [← readV_eq]
  by_cases h : (s.size : Int) < 512
  · exact readBy_shortO s _ _ _ w h
  · refine readBy_longO s _ _ _ w ?_ ?_ hs (by omega) hT hF
    · intro g w hT hF hB
      refine head_oct _ _ g (lOf s) w ?_ hT hF hB
      intro k x h1 h5 hx w hT hF hB
      refine (number_any g k x (lOf s) w (by omega) hx hF hB).mono ?_
      have hfw : fieldv (lOf s) k x = fW (lOf s) k := by rw [fW, List.getD, hx]; rfl
      rw [hfw]
      rintro e w' ⟨rfl, rfl⟩
      exact ⟨rfl, Below.refl _ _⟩
    · intro _ w hT hF
      exact again_impl (pathL (lOf s)) (cutv (fW (lOf s) 8)) (fnumv (fW (lOf s) 1)) (fnumv (fW (lOf s) 2)) (fnumv (fW (lOf s) 3)) (fnumv (fW (lOf s) 5)) (cutv (fW (lOf s) 10)) (cutv (fW (lOf s) 11)) ⟨#[]⟩ (fW (lOf s) 7) (fnumv (fW (lOf s) 4)) w (by have := pathL_small (lOf s); omega) (by have := fW_small (lOf s) 8; omega) (by have := fW_small (lOf s) 10; omega) (by have := fW_small (lOf s) 11; omega) hT hF
set_option maxHeartbeats 1600000 in
theorem readHead_any (s : ByteArray) (w : World) (hs : s.size ≤ 1048576) (hT : Tabs w) (hF : FW w) :
    Calls Tryz.prog 25 #[.string s] w fun e w' => e = .returned (readV s) ∧ Below w.heap.size w w' := by
  obtain ⟨OC, ev, hv, hsz, h1⟩ := readV_parts s
  have H1 := Lib.hid (fun w hT hF => readBy_oct s w hs hT hF)
  rw [hv] at H1 ⊢
  have B0 := Lib.hid ((Below.refl w.heap.size w).alloc (Nat.le_refl _) (.cells zHead 37))
  have R0 : Hid ((w.alloc (.cells zHead 37)).heap[w.heap.size]? = some (.cells zHead 37 (0, 0))) := Lib.hid (heap_alloc_last _ _)
  have HT0 := Lib.hid (hT.below B0.out)
  have HF0 := Lib.hid (hF.below B0.out)
  have HSZ := Lib.hid hsz
  have HO1 := Lib.hid h1
  clear hT hF hv hsz h1
  go_enter Tryz.func25, Tryz.ntmps25
  go_wp2_with fail
  refine (H1.out _ HT0.out HF0.out).mono ?_
  rintro e w1 ⟨rfl, hb1⟩
  have RO1 := Lib.hid ((hb1.block w.heap.size (by simp)).trans R0.out)
  have B1 := Lib.hid (B0.out.trans (hb1.mono (by simp)))
  clear hb1 R0 B0 H1 HT0 HF0
  have HSt := Lib.hid (run_storeVar_row (P := Tryz.prog) w1 w.heap.size 37 37 zHead OC RO1.out (by rw [Tryz.sizeHd, HSZ.out]) (by rw [HSZ.out]; rfl) HO1.out)
  go_wp2_with ((with_reducible refine wpList_store_eq rfl 37 _ _ rfl ⟨w.heap.size, 0, none⟩ ?_ ?_ HSt.out ?_); rfl; rfl)
  refine bodyPost_ret (results_cell2 rfl _ _ w.heap.size _ OC (0, 0) _ rfl (setRow_heap _ _ _ _ _ _ RO1.out) Tryz.underlying37 rfl (by rw [Tryz.sizeHd, HSZ.out])) rfl ?_
  exact ⟨rfl, B1.out.trans (below_set (Nat.le_refl _) _)⟩
end Go.Proofs.YtgpgkgahbkmdiabGreatDoor

/- A statement that draws its order and writes memory: beside what each slot holds, what each operation has left in memory. Nothing of the program is said here. -/
namespace Go.Proofs.YtgpgkgahbkmdiabGreatDoor
open Go

section
variable {P : Program} {ops : Array Oper} {Q : Exit → Act → World → Prop} {md : Region.Mode}

/-- What has come up has left what it should, all else is as it was. -/
structure RegIU (md : Region.Mode) (ops : Array Oper) (C : World → Prop) (V : Nat → Value → World → Prop) (U : Oper → World → Prop) (a0 : Act) (listed : Array Bool) (a : Act) (w : World) : Prop where
  size : listed.size = ops.size
  clo : ∀ j p, ops[j]? = some p → listed.getD j false = true → ∀ e ∈ p.after, Region.binds md e = true → listed.getD e.on false = true
  cls : C w
  defers : a.defers = a0.defers
  tsize : a.tmps.size = a0.tmps.size
  old : ∀ t, (∀ i o, ops[i]? = some o → listed.getD i false = true → o.dst ≠ some t) → a.tmps.getD t undef = a0.tmps.getD t undef
  unew : ∀ i o, ops[i]? = some o → listed.getD i false = true → U o w
  new : ∀ i o d, ops[i]? = some o → listed.getD i false = true → o.dst = some d → V d (a.tmps.getD d undef) w
/-- One operation, in whatever state what it looks at is there. -/
def OpOkU (P : Program) (ops : Array Oper) (C : World → Prop) (St : World → World → Prop) (V : Nat → Value → World → Prop) (U : Oper → World → Prop) (a0 : Act) (o : Oper) : Prop :=
  ∀ (Q : Exit → Act → World → Prop) (a : Act) (w : World), C w → (∀ t, Operand.tmp t ∈ o.op.operands → oldB .any ops o t = false → V t (a.eval (.tmp t)) w) → (∀ t, Operand.tmp t ∈ o.op.operands → oldB .any ops o t = true → a.eval (.tmp t) = a0.eval (.tmp t)) →
    o.wp P a w (fun a' w' => ∃ v, a' = a.put o.dst v ∧ C w' ∧ St w w' ∧ (∀ d, o.dst = some d → V d v w') ∧ U o w') Q
/-- **The region, in whatever order.** -/
theorem wp_region_u {id : Nat} {a0 : Act} {w0 : World} {l : List Oper} (hm : P.follows .mixedOrders = true) (C : World → Prop) (St : World → World → Prop) (V : Nat → Value → World → Prop) (U : Oper → World → Prop) (hB : regB .any l.toArray a0.tmps.size = true)
    (hC : C { w0 with drawn := w0.drawn + 1 }) (hV : ∀ d v w w', C w → St w w' → V d v w → V d v w') (hU : ∀ o w w', C w → St w w' → U o w → U o w') (hops : ∀ o ∈ l, OpOkU P l.toArray C St V U a0 o)
    (hend : ∀ (f : Nat → Value) (w : World), C w → (∀ o ∈ l, ∀ d, o.dst = some d → V d (f d) w) → (∀ o ∈ l, U o w) → Q .normal (putAll f l a0) w) : (Code.region id l.toArray true).wp P Q a0 w0 := by
  refine wp_region_any hm (wpAny_inv (RegIU .any l.toArray C V U a0) ?_ ?_ _ _ _ _ ?_ ?_)
  · intro listed a w hI i hi
    obtain ⟨hun, o, ho, hall⟩ := mem_ready.1 hi
    have hat := regB_at hB ho
    have hwant : Region.wanted o (yielded l.toArray a.tmps) = true := by simp [Region.wanted, hat.1]
    have hmem : o ∈ l := by
      have := Array.mem_of_getElem? ho
      simpa using this
    have hrun := hops o hmem Q a w hI.cls (fun t ht hin => ?_) (fun t ht hin => ?_)
    · unfold wpOp
      simp only [ho, hwant, if_true]
      refine .inl (Oper.wp_mono (fun a' w' h' => ?_) hrun)
      obtain ⟨v, rfl, hC', hSt, hv, hu⟩ := h'
      have hltl : i < listed.size := by rw [hI.size]; exact (Array.getElem?_eq_some_iff.1 ho).1
      refine ⟨by simpa using hI.size, fun j p hp hl e he hb => ?_, hC', ?_, ?_, fun t ht => ?_, fun j p hp hl => ?_, fun j p d hp hl hd => ?_⟩
      · have hup : ∀ k, listed.getD k false = true → (listed.setIfInBounds i true).getD k false = true := fun k hk => by
          by_cases q : k = i
          · subst q; exact set_getD_self hltl
          · rw [set_getD_ne q]; exact hk
        by_cases hj : j = i
        · subst hj
          rw [ho] at hp
          obtain rfl := Option.some.inj hp
          exact hup _ (hall e he hb)
        · rw [set_getD_ne hj] at hl
          exact hup _ (hI.clo j p hp hl e he hb)
      · cases hdst : o.dst <;> simp [Act.put, hI.defers]
      · cases hdst : o.dst <;> simp [Act.put, hI.tsize]
      · have hne : o.dst ≠ some t := ht i o ho (set_getD_self hltl)
        have h1 := hI.old t (fun j p hp hl => ht j p hp (by
          by_cases hj : j = i
          · subst hj; exact set_getD_self hltl
          · rw [set_getD_ne hj]; exact hl))
        rw [← h1]
        cases hdst : o.dst with
        | none => rfl
        | some d =>
          have hdt : d ≠ t := fun e => hne (by rw [hdst, e])
          exact getD_put_ne hdt
      · by_cases hj : j = i
        · subst hj
          rw [ho] at hp
          obtain rfl := Option.some.inj hp
          exact hu
        · have hl' : listed.getD j false = true := by rw [set_getD_ne hj] at hl; exact hl
          exact hU p _ _ hI.cls hSt (hI.unew j p hp hl')
      · by_cases hj : j = i
        · subst hj
          rw [ho] at hp
          obtain rfl := Option.some.inj hp
          have hdl := hat.2.1 d hd
          have : (a.put o.dst v).tmps.getD d undef = v := by
            rw [hd]; simp [Act.put, Array.getD, hI.tsize, hdl]
          rw [this]
          exact hv d hd
        · have hl' : listed.getD j false = true := by rw [set_getD_ne hj] at hl; exact hl
          have hne : o.dst ≠ some d := ((hat.2.2.2 j p d hp hd).1).resolve_left (Ne.symm hj)
          have hold := hI.new j p d hp hl' hd
          have : (a.put o.dst v).tmps.getD d undef = a.tmps.getD d undef := by
            cases hdst : o.dst with
            | none => rfl
            | some d' =>
              have hdt : d' ≠ d := fun e => hne (by rw [hdst, e])
              exact getD_put_ne hdt
          rw [this]
          exact hV d _ _ _ hI.cls hSt hold
    · obtain ⟨j, p, hp, hd⟩ := oldB_f hin
      obtain ⟨e, he, hb, rfl⟩ := (hat.2.2.2 j p t hp hd).2 (by simpa using ht) hin
      exact hI.new e.on p t hp (hall e he hb) hd
    · refine hI.old t (fun j p hp hl hd => ?_)
      obtain ⟨d, hod, e, he, hb, hq⟩ := oldB_t hin hp hd
      have hel := hI.clo j p hp hl e he hb
      cases hqq : l.toArray[e.on]? with
      | none => rw [hqq] at hq; cases hq
      | some q =>
        rw [hqq] at hq
        rcases (hat.2.2.2 e.on q d hqq hq).1 with rfl | h
        · have hlt : e.on < listed.size := by rw [hI.size]; exact (Array.getElem?_eq_some_iff.1 hqq).1
          simp only [Array.getD, hlt, dif_pos] at hel hun
          rw [hel] at hun
          cases hun
        · exact h hod
  · intro listed a w hI hr
    have hal := all_listed hB hI.size hr
    have hput := putAll_facts (fun d => a.tmps.getD d undef) l a0
    have ha : a = putAll (fun d => a.tmps.getD d undef) l a0 := by
      refine act_ext (hI.defers.trans hput.1.symm) (hI.tsize.trans hput.2.1.symm) (fun t ht => ?_)
      rw [hput.2.1] at ht
      rw [hput.2.2 t ht]
      by_cases h : l.any (fun o => o.dst == some t) = true
      · rw [if_pos h]
      · rw [if_neg h]
        refine hI.old t (fun i o ho _ hd => h ?_)
        rw [List.any_eq_true]
        exact ⟨o, by have := Array.mem_of_getElem? ho; simpa using this, by rw [hd]; simp⟩
    rw [ha]
    refine hend _ w hI.cls (fun o ho d hd => ?_) (fun o ho => ?_)
    rotate_left
    · obtain ⟨i, hi⟩ := List.mem_iff_getElem?.1 ho
      have hi' : l.toArray[i]? = some o := by simpa using hi
      exact hI.unew i o hi' (hal i (Array.getElem?_eq_some_iff.1 hi').1)
    obtain ⟨i, hi⟩ := List.mem_iff_getElem?.1 ho
    have hi' : l.toArray[i]? = some o := by simpa using hi
    exact hI.new i o d hi' (hal i (Array.getElem?_eq_some_iff.1 hi').1) hd
  · unfold openOps
    exact Nat.le_trans (List.length_filter_le _ _) (by simp)
  · refine ⟨by simp, fun j p _ hl => ?_, hC, rfl, rfl, fun t _ => rfl, fun i o ho hl => ?_, fun i o d ho hl _ => ?_⟩
    · simp [Array.getD] at hl
    · simp [Array.getD] at hl
    · simp [Array.getD] at hl
theorem opU_val {C : World → Prop} {St : World → World → Prop} {V : Nat → Value → World → Prop} {U : Oper → World → Prop} {o : Oper} {a : Act} {w w' : World} (v : Value) (h : (execOp a.eval o).run P w = .ok (.value v) w') (hC : C w') (hS : St w w') (hv : ∀ d, o.dst = some d → V d v w') (hu : U o w') :
    o.wp P a w (fun a' w' => ∃ v, a' = a.put o.dst v ∧ C w' ∧ St w w' ∧ (∀ d, o.dst = some d → V d v w') ∧ U o w') Q := by
  unfold Oper.wp
  rw [h]
  exact ⟨v, rfl, hC, hS, hv, hu⟩
theorem opU_call {C : World → Prop} {St : World → World → Prop} {V : Nat → Value → World → Prop} {U : Oper → World → Prop} {o : Oper} {a : Act} {w : World} {f : FuncId} {args : Array Value} {R : Value → World → Prop} (h : (execOp a.eval o).run P w = .ok (.enter f args) w)
    (hc : Calls P f args w fun e w' => ∃ v, e = .returned v ∧ R v w') (hR : ∀ v w', R v w' → C w' ∧ St w w' ∧ (∀ d, o.dst = some d → V d v w') ∧ U o w') :
    o.wp P a w (fun a' w' => ∃ v, a' = a.put o.dst v ∧ C w' ∧ St w w' ∧ (∀ d, o.dst = some d → V d v w') ∧ U o w') Q := by
  unfold Oper.wp
  rw [h]
  refine Calls.mono hc (fun e w' he => ?_)
  obtain ⟨v, rfl, hr⟩ := he
  obtain ⟨h1, h2, h3, h4⟩ := hR v w' hr
  exact ⟨v, rfl, h1, h2, h3, h4⟩
theorem opU_store {C : World → Prop} {St : World → World → Prop} {V : Nat → Value → World → Prop} {U : Oper → World → Prop} {o : Oper} {a : Act} {w w' : World} (ty : TypeId) (x y : Operand) (ho : o.op = .store ty x y) (hd : o.dst = none) (g : Addr) (hx : a.eval x = .pointer (some g)) {v : Value} (hy : a.eval y = v) (hr : (storeVar ty g v).run P w = .ok () w') (hC : C w') (hS : St w w') (hu : U o w') :
    o.wp P a w (fun a' w' => ∃ v, a' = a.put o.dst v ∧ C w' ∧ St w w' ∧ (∀ d, o.dst = some d → V d v w') ∧ U o w') Q := by
  unfold Oper.wp execOp
  simp only [ho, hx, hy, Instr.storeAt, Instr.sureAddr, Sem.run_bind, Sem.run_pure, Result.andThen_ok, hr]
  exact ⟨undef, rfl, hC, hS, fun d h => (by rw [hd] at h; cases h), hu⟩
end
end Go.Proofs.YtgpgkgahbkmdiabGreatDoor

/- Contract of impl.GetHead. -/
namespace Go.Proofs.YtgpgkgahbkmdiabGreatDoor
open Go.ChangeShapes Go.WideShapes Go.ChangeAt Go.RowKit

def zEnt : Array Value := #[.int .i64 0, .string ⟨#[]⟩, .string ⟨#[]⟩, .int .i64 0, .int .i64 0, .int .i64 0, .int .i64 0, .string ⟨#[]⟩, .string ⟨#[]⟩, .string ⟨#[]⟩]
/-- The code of a header. -/
def hdc (s : ByteArray) : Int := if s.size < 512 then 1 else if sumOkv s = false then 2 else if headOk (lOf s) = false then 3 else if againOk (lOf s) = true then 0 else 4
theorem readV_code (s : ByteArray) : (hdc s = 0 ∧ readV s = .tuple #[.agg (okCells (lOf s)), .nilIface]) ∨ (¬ hdc s = 0 ∧ readV s = badHd (hdc s)) := by
  unfold hdc readV
  split
  · exact .inr ⟨by omega, rfl⟩
  · split
    · exact .inr ⟨by omega, rfl⟩
    · split
      · exact .inr ⟨by omega, rfl⟩
      · split
        · exact .inl ⟨rfl, rfl⟩
        · exact .inr ⟨by omega, rfl⟩
def getV (s : ByteArray) : Value := if hdc s = 0 then .tuple #[.agg (entL (lOf s)).cells.toArray, .string (fW (lOf s) 7), .int .i64 (fnumv (fW (lOf s) 4)), .int .i64 0] else .tuple #[.agg zEnt, .string ⟨#[]⟩, .int .i64 0, .int .i64 (hdc s)]
theorem results_cell4 {P : Program} {fn : Func} {p u1 u2 u3 : Tmp} {ty : TypeId} (h : fn.results = #[.cell p ty, .tmp u1, .tmp u2, .tmp u3]) (tmps : Array Value) (w : World) (g : Nat) (t : TypeId) (cs : Array Value) (fr : Nat × Nat) (d : TypeDesc)
    (hp : tmps.getD p undef = .pointer (some ⟨g, 0, none⟩)) (hg : w.heap[g]? = some (.cells cs t fr))
    (hu : P.underlying ty = some d) (hd : (match d with | .struct _ | .array _ _ => true | _ => false) = true) (hi : (P.info? ty).map (·.size) = some cs.size) :
    (results fn tmps).run P w = .ok (.tuple #[.agg cs, tmps.getD u1 undef, tmps.getD u2 undef, tmps.getD u3 undef]) w := by
  have hp' : tmps[p]?.getD undef = .pointer (some ⟨g, 0, none⟩) := by simpa using hp
  simp [results, h, hp', asAddr, run_loadVar_row w g t ty cs fr d hg hu hd hi]
theorem Tryz.sizeEnt : (Tryz.prog.info? 23).map (·.size) = some 10 := by kernel_rfl

set_option maxHeartbeats 6400000 in
set_option maxRecDepth 8000 in
theorem getHead_bad (s : ByteArray) (w : World) (hs : s.size ≤ 1048576) (hc : ¬ hdc s = 0) (hT : Tabs w) (hF : FW w) (hH : Handle w) :
    Calls Tryz.prog 9 #[.string s] w fun e w' => e = .returned (getV s) ∧ Below w.heap.size w w' := by
  have H1 := Lib.hid (fun w hT hF => readHead_any s w hs hT hF)
  rw [((readV_code s).resolve_left (fun h => hc h.1)).2, badHd] at H1
  have HE : Hid (getV s = .tuple #[.agg zEnt, .string ⟨#[]⟩, .int .i64 0, .int .i64 (hdc s)]) := Lib.hid (by rw [getV, if_neg hc])
  have HCo := Lib.hid (fun w h => codeOf_err (hdc s) w h)
  generalize hdc s = cd at *
  clear hc
  have B0 := Lib.hid ((Below.refl w.heap.size w).alloc (Nat.le_refl _) (.cells zEnt 23))
  have R0 : Hid ((w.alloc (.cells zEnt 23)).heap[w.heap.size]? = some (.cells zEnt 23 (0, 0))) := Lib.hid (heap_alloc_last _ _)
  have HT0 := Lib.hid (hT.below B0.out)
  have HF0 := Lib.hid (hF.below B0.out)
  have HH := Lib.hid hH
  clear hT hF hH
  go_enter Tryz.func9, Tryz.ntmps9
  go_wp2_with fail
  refine (H1.out _ HT0.out HF0.out).mono ?_
  rintro e w1 ⟨rfl, hb1⟩
  have RO1 := Lib.hid ((hb1.block w.heap.size (by simp)).trans R0.out)
  have B1 := Lib.hid (B0.out.trans (hb1.mono (by simp)))
  clear hb1 R0 B0 H1 HT0 HF0
  have zR1 := obj_lt RO1.out
  have HSn := Lib.hid (run_storeVar_new (P := Tryz.prog) w1 37 zHead zHead (by rw [Tryz.sizeHd]; rfl) rfl (by simp [zHead, Value.oneCell']))
  go_wp2_with ((with_reducible refine wpList_store_eq rfl 37 _ _ rfl ⟨w1.heap.size, 0, none⟩ ?_ ?_ HSn.out ?_); rfl; rfl)
  have OB := heap_alloc_last w1 (.cells zHead 37)
  have BX := (Below.refl w1.heap.size w1).alloc (Nat.le_refl _) (.cells zHead 37)
  generalize w1.alloc (.cells zHead 37) = w4 at *
  have OB' := Lib.hid OB
  have RO4 := Lib.hid ((BX.block _ (obj_lt RO1.out)).trans RO1.out)
  have B4 := Lib.hid (B1.out.trans (BX.mono B1.out.size))
  clear OB BX RO1 B1 HSn
  have zR4 := obj_lt RO4.out
  have KC : Hid (∀ w' : World, w'.heap[w1.heap.size]? = some (.cells zHead 37 (0, 0)) → w'.cell? ⟨w1.heap.size, 0, none⟩ = some (.int .i64 0) ∧ w'.cell? ⟨w1.heap.size, 1, none⟩ = some (.string ⟨#[]⟩) ∧ w'.cell? ⟨w1.heap.size, 2, none⟩ = some (.string ⟨#[]⟩) ∧ w'.cell? ⟨w1.heap.size, 3, none⟩ = some (.int .i64 0) ∧ w'.cell? ⟨w1.heap.size, 4, none⟩ = some (.int .i64 0) ∧ w'.cell? ⟨w1.heap.size, 5, none⟩ = some (.int .i64 0) ∧ w'.cell? ⟨w1.heap.size, 6, none⟩ = some (.int .i64 0) ∧ w'.cell? ⟨w1.heap.size, 7, none⟩ = some (.string ⟨#[]⟩) ∧ w'.cell? ⟨w1.heap.size, 8, none⟩ = some (.string ⟨#[]⟩) ∧ w'.cell? ⟨w1.heap.size, 9, none⟩ = some (.string ⟨#[]⟩) ∧ w'.cell? ⟨w1.heap.size, 10, none⟩ = some (.string ⟨#[]⟩) ∧ w'.cell? ⟨w1.heap.size, 11, none⟩ = some (.int .i64 0)) := Lib.hid (fun w' h1 => by
    refine ⟨?_, ?_, ?_, ?_, ?_, ?_, ?_, ?_, ?_, ?_, ?_, ?_⟩
    all_goals (rw [cell_of_row _ _ _ _ _ _ h1]; rfl))
  have zRH : w.heap.size < w1.heap.size := zR1
  refine wp_region_u (by kernel_rfl) (fun w' => Below w.heap.size w w' ∧ w'.heap[w1.heap.size]? = some (.cells zHead 37 (0, 0)) ∧ (w'.heap[w.heap.size]? = some (.cells zEnt 23 (0, 0)) ∨ w'.heap[w.heap.size]? = some (.cells #[.int .i64 0, .string ⟨#[]⟩, .string ⟨#[]⟩, .int .i64 0, .int .i64 0, .int .i64 0, .int .i64 0, .string ⟨#[]⟩, .string ⟨#[]⟩, .string ⟨#[]⟩] 23 (0, 0)))) (fun x y => y.heap[w.heap.size]? = x.heap[w.heap.size]? ∨ y.heap[w.heap.size]? = some (.cells #[.int .i64 0, .string ⟨#[]⟩, .string ⟨#[]⟩, .int .i64 0, .int .i64 0, .int .i64 0, .int .i64 0, .string ⟨#[]⟩, .string ⟨#[]⟩, .string ⟨#[]⟩] 23 (0, 0))) (fun d v _ => match d with | 13 => v = .pointer (some ⟨w1.heap.size, 0, none⟩) | 14 => v = .agg #[.int .i64 0, .string ⟨#[]⟩, .string ⟨#[]⟩, .int .i64 0, .int .i64 0, .int .i64 0, .int .i64 0, .string ⟨#[]⟩, .string ⟨#[]⟩, .string ⟨#[]⟩] | 15 => v = .pointer (some ⟨w1.heap.size, 10, none⟩) | 16 => v = .string ⟨#[]⟩ | 17 => v = .pointer (some ⟨w1.heap.size, 11, none⟩) | 18 => v = .int .i64 0 | 19 => v = .iface 81 (.agg #[.int .i64 cd]) | 20 => v = .int .i64 cd | 3 => v = .string ⟨#[]⟩ | 4 => v = .int .i64 0 | 5 => v = .int .i64 cd | _ => True) (fun o w' => o.dst = none → w'.heap[w.heap.size]? = some (.cells #[.int .i64 0, .string ⟨#[]⟩, .string ⟨#[]⟩, .int .i64 0, .int .i64 0, .int .i64 0, .int .i64 0, .string ⟨#[]⟩, .string ⟨#[]⟩, .string ⟨#[]⟩] 23 (0, 0))) (by kernel_rfl) ⟨B4.out.drew, OB'.out, .inl RO4.out⟩ (fun _ _ _ _ _ _ h => h) (fun _ _ _ _ hs hu hd => Or.elim hs (fun h => h.trans (hu hd)) (fun h => h)) ?hops ?hend
  case hops =>
    simp only [List.forall_mem_cons]
    refine ⟨?o13, ?o14, ?o15, ?o16, ?o17, ?o18, ?o19, ?o20, ?os8, ?o3, ?o4, ?o5, fun _ h => by cases h⟩
    case o13 =>
      intro Q a w2 hC hV hI
      have e6 : a.eval (.tmp 6) = .pointer (some ⟨w1.heap.size, 0, none⟩) := (hI 6 (by simp [Op.operands]) (by kernel_rfl)).trans rfl
      have f6 : a.tmps.getD 6 undef = .pointer (some ⟨w1.heap.size, 0, none⟩) := e6
      have g6 : a.tmps[6]?.getD undef = .pointer (some ⟨w1.heap.size, 0, none⟩) := by rw [← Array.getD_eq_getD_getElem?]; exact e6
      refine opU_val (C := fun w' => Below w.heap.size w w' ∧ w'.heap[w1.heap.size]? = some (.cells zHead 37 (0, 0)) ∧ (w'.heap[w.heap.size]? = some (.cells zEnt 23 (0, 0)) ∨ w'.heap[w.heap.size]? = some (.cells #[.int .i64 0, .string ⟨#[]⟩, .string ⟨#[]⟩, .int .i64 0, .int .i64 0, .int .i64 0, .int .i64 0, .string ⟨#[]⟩, .string ⟨#[]⟩, .string ⟨#[]⟩] 23 (0, 0)))) (St := fun x y => y.heap[w.heap.size]? = x.heap[w.heap.size]? ∨ y.heap[w.heap.size]? = some (.cells #[.int .i64 0, .string ⟨#[]⟩, .string ⟨#[]⟩, .int .i64 0, .int .i64 0, .int .i64 0, .int .i64 0, .string ⟨#[]⟩, .string ⟨#[]⟩, .string ⟨#[]⟩] 23 (0, 0))) (V := fun d v _ => match d with | 13 => v = .pointer (some ⟨w1.heap.size, 0, none⟩) | 14 => v = .agg #[.int .i64 0, .string ⟨#[]⟩, .string ⟨#[]⟩, .int .i64 0, .int .i64 0, .int .i64 0, .int .i64 0, .string ⟨#[]⟩, .string ⟨#[]⟩, .string ⟨#[]⟩] | 15 => v = .pointer (some ⟨w1.heap.size, 10, none⟩) | 16 => v = .string ⟨#[]⟩ | 17 => v = .pointer (some ⟨w1.heap.size, 11, none⟩) | 18 => v = .int .i64 0 | 19 => v = .iface 81 (.agg #[.int .i64 cd]) | 20 => v = .int .i64 cd | 3 => v = .string ⟨#[]⟩ | 4 => v = .int .i64 0 | 5 => v = .int .i64 cd | _ => True) (U := fun o w' => o.dst = none → w'.heap[w.heap.size]? = some (.cells #[.int .i64 0, .string ⟨#[]⟩, .string ⟨#[]⟩, .int .i64 0, .int .i64 0, .int .i64 0, .int .i64 0, .string ⟨#[]⟩, .string ⟨#[]⟩, .string ⟨#[]⟩] 23 (0, 0))) (w' := w2) (.pointer (some ⟨w1.heap.size, 0, none⟩)) ?_ ?_ ?_ ?_ ?_
      · (clear hV hI hC; go_simp <;> (first | rfl | simp))
      · exact hC
      · exact Or.inl rfl
      · intro d hd; cases hd; rfl
      · intro h; cases h
    case o14 =>
      intro Q a w2 hC hV hI
      have e13 : a.eval (.tmp 13) = .pointer (some ⟨w1.heap.size, 0, none⟩) := hV 13 (by simp [Op.operands]) (by kernel_rfl)
      have f13 : a.tmps.getD 13 undef = .pointer (some ⟨w1.heap.size, 0, none⟩) := e13
      have g13 : a.tmps[13]?.getD undef = .pointer (some ⟨w1.heap.size, 0, none⟩) := by rw [← Array.getD_eq_getD_getElem?]; exact e13
      have hK := KC.out w2 hC.2.1
      refine opU_val (C := fun w' => Below w.heap.size w w' ∧ w'.heap[w1.heap.size]? = some (.cells zHead 37 (0, 0)) ∧ (w'.heap[w.heap.size]? = some (.cells zEnt 23 (0, 0)) ∨ w'.heap[w.heap.size]? = some (.cells #[.int .i64 0, .string ⟨#[]⟩, .string ⟨#[]⟩, .int .i64 0, .int .i64 0, .int .i64 0, .int .i64 0, .string ⟨#[]⟩, .string ⟨#[]⟩, .string ⟨#[]⟩] 23 (0, 0)))) (St := fun x y => y.heap[w.heap.size]? = x.heap[w.heap.size]? ∨ y.heap[w.heap.size]? = some (.cells #[.int .i64 0, .string ⟨#[]⟩, .string ⟨#[]⟩, .int .i64 0, .int .i64 0, .int .i64 0, .int .i64 0, .string ⟨#[]⟩, .string ⟨#[]⟩, .string ⟨#[]⟩] 23 (0, 0))) (V := fun d v _ => match d with | 13 => v = .pointer (some ⟨w1.heap.size, 0, none⟩) | 14 => v = .agg #[.int .i64 0, .string ⟨#[]⟩, .string ⟨#[]⟩, .int .i64 0, .int .i64 0, .int .i64 0, .int .i64 0, .string ⟨#[]⟩, .string ⟨#[]⟩, .string ⟨#[]⟩] | 15 => v = .pointer (some ⟨w1.heap.size, 10, none⟩) | 16 => v = .string ⟨#[]⟩ | 17 => v = .pointer (some ⟨w1.heap.size, 11, none⟩) | 18 => v = .int .i64 0 | 19 => v = .iface 81 (.agg #[.int .i64 cd]) | 20 => v = .int .i64 cd | 3 => v = .string ⟨#[]⟩ | 4 => v = .int .i64 0 | 5 => v = .int .i64 cd | _ => True) (U := fun o w' => o.dst = none → w'.heap[w.heap.size]? = some (.cells #[.int .i64 0, .string ⟨#[]⟩, .string ⟨#[]⟩, .int .i64 0, .int .i64 0, .int .i64 0, .int .i64 0, .string ⟨#[]⟩, .string ⟨#[]⟩, .string ⟨#[]⟩] 23 (0, 0))) (w' := w2) (.agg #[.int .i64 0, .string ⟨#[]⟩, .string ⟨#[]⟩, .int .i64 0, .int .i64 0, .int .i64 0, .int .i64 0, .string ⟨#[]⟩, .string ⟨#[]⟩, .string ⟨#[]⟩]) ?_ ?_ ?_ ?_ ?_
      · (clear hV hI hC; go_simp <;> (first | rfl | simp))
      · exact hC
      · exact Or.inl rfl
      · intro d hd; cases hd; rfl
      · intro h; cases h
    case o15 =>
      intro Q a w2 hC hV hI
      have e6 : a.eval (.tmp 6) = .pointer (some ⟨w1.heap.size, 0, none⟩) := (hI 6 (by simp [Op.operands]) (by kernel_rfl)).trans rfl
      have f6 : a.tmps.getD 6 undef = .pointer (some ⟨w1.heap.size, 0, none⟩) := e6
      have g6 : a.tmps[6]?.getD undef = .pointer (some ⟨w1.heap.size, 0, none⟩) := by rw [← Array.getD_eq_getD_getElem?]; exact e6
      refine opU_val (C := fun w' => Below w.heap.size w w' ∧ w'.heap[w1.heap.size]? = some (.cells zHead 37 (0, 0)) ∧ (w'.heap[w.heap.size]? = some (.cells zEnt 23 (0, 0)) ∨ w'.heap[w.heap.size]? = some (.cells #[.int .i64 0, .string ⟨#[]⟩, .string ⟨#[]⟩, .int .i64 0, .int .i64 0, .int .i64 0, .int .i64 0, .string ⟨#[]⟩, .string ⟨#[]⟩, .string ⟨#[]⟩] 23 (0, 0)))) (St := fun x y => y.heap[w.heap.size]? = x.heap[w.heap.size]? ∨ y.heap[w.heap.size]? = some (.cells #[.int .i64 0, .string ⟨#[]⟩, .string ⟨#[]⟩, .int .i64 0, .int .i64 0, .int .i64 0, .int .i64 0, .string ⟨#[]⟩, .string ⟨#[]⟩, .string ⟨#[]⟩] 23 (0, 0))) (V := fun d v _ => match d with | 13 => v = .pointer (some ⟨w1.heap.size, 0, none⟩) | 14 => v = .agg #[.int .i64 0, .string ⟨#[]⟩, .string ⟨#[]⟩, .int .i64 0, .int .i64 0, .int .i64 0, .int .i64 0, .string ⟨#[]⟩, .string ⟨#[]⟩, .string ⟨#[]⟩] | 15 => v = .pointer (some ⟨w1.heap.size, 10, none⟩) | 16 => v = .string ⟨#[]⟩ | 17 => v = .pointer (some ⟨w1.heap.size, 11, none⟩) | 18 => v = .int .i64 0 | 19 => v = .iface 81 (.agg #[.int .i64 cd]) | 20 => v = .int .i64 cd | 3 => v = .string ⟨#[]⟩ | 4 => v = .int .i64 0 | 5 => v = .int .i64 cd | _ => True) (U := fun o w' => o.dst = none → w'.heap[w.heap.size]? = some (.cells #[.int .i64 0, .string ⟨#[]⟩, .string ⟨#[]⟩, .int .i64 0, .int .i64 0, .int .i64 0, .int .i64 0, .string ⟨#[]⟩, .string ⟨#[]⟩, .string ⟨#[]⟩] 23 (0, 0))) (w' := w2) (.pointer (some ⟨w1.heap.size, 10, none⟩)) ?_ ?_ ?_ ?_ ?_
      · (clear hV hI hC; go_simp <;> (first | rfl | simp))
      · exact hC
      · exact Or.inl rfl
      · intro d hd; cases hd; rfl
      · intro h; cases h
    case o16 =>
      intro Q a w2 hC hV hI
      have e15 : a.eval (.tmp 15) = .pointer (some ⟨w1.heap.size, 10, none⟩) := hV 15 (by simp [Op.operands]) (by kernel_rfl)
      have f15 : a.tmps.getD 15 undef = .pointer (some ⟨w1.heap.size, 10, none⟩) := e15
      have g15 : a.tmps[15]?.getD undef = .pointer (some ⟨w1.heap.size, 10, none⟩) := by rw [← Array.getD_eq_getD_getElem?]; exact e15
      have hK := KC.out w2 hC.2.1
      refine opU_val (C := fun w' => Below w.heap.size w w' ∧ w'.heap[w1.heap.size]? = some (.cells zHead 37 (0, 0)) ∧ (w'.heap[w.heap.size]? = some (.cells zEnt 23 (0, 0)) ∨ w'.heap[w.heap.size]? = some (.cells #[.int .i64 0, .string ⟨#[]⟩, .string ⟨#[]⟩, .int .i64 0, .int .i64 0, .int .i64 0, .int .i64 0, .string ⟨#[]⟩, .string ⟨#[]⟩, .string ⟨#[]⟩] 23 (0, 0)))) (St := fun x y => y.heap[w.heap.size]? = x.heap[w.heap.size]? ∨ y.heap[w.heap.size]? = some (.cells #[.int .i64 0, .string ⟨#[]⟩, .string ⟨#[]⟩, .int .i64 0, .int .i64 0, .int .i64 0, .int .i64 0, .string ⟨#[]⟩, .string ⟨#[]⟩, .string ⟨#[]⟩] 23 (0, 0))) (V := fun d v _ => match d with | 13 => v = .pointer (some ⟨w1.heap.size, 0, none⟩) | 14 => v = .agg #[.int .i64 0, .string ⟨#[]⟩, .string ⟨#[]⟩, .int .i64 0, .int .i64 0, .int .i64 0, .int .i64 0, .string ⟨#[]⟩, .string ⟨#[]⟩, .string ⟨#[]⟩] | 15 => v = .pointer (some ⟨w1.heap.size, 10, none⟩) | 16 => v = .string ⟨#[]⟩ | 17 => v = .pointer (some ⟨w1.heap.size, 11, none⟩) | 18 => v = .int .i64 0 | 19 => v = .iface 81 (.agg #[.int .i64 cd]) | 20 => v = .int .i64 cd | 3 => v = .string ⟨#[]⟩ | 4 => v = .int .i64 0 | 5 => v = .int .i64 cd | _ => True) (U := fun o w' => o.dst = none → w'.heap[w.heap.size]? = some (.cells #[.int .i64 0, .string ⟨#[]⟩, .string ⟨#[]⟩, .int .i64 0, .int .i64 0, .int .i64 0, .int .i64 0, .string ⟨#[]⟩, .string ⟨#[]⟩, .string ⟨#[]⟩] 23 (0, 0))) (w' := w2) (.string ⟨#[]⟩) ?_ ?_ ?_ ?_ ?_
      · (clear hV hI hC; go_simp <;> (first | rfl | simp))
      · exact hC
      · exact Or.inl rfl
      · intro d hd; cases hd; rfl
      · intro h; cases h
    case o17 =>
      intro Q a w2 hC hV hI
      have e6 : a.eval (.tmp 6) = .pointer (some ⟨w1.heap.size, 0, none⟩) := (hI 6 (by simp [Op.operands]) (by kernel_rfl)).trans rfl
      have f6 : a.tmps.getD 6 undef = .pointer (some ⟨w1.heap.size, 0, none⟩) := e6
      have g6 : a.tmps[6]?.getD undef = .pointer (some ⟨w1.heap.size, 0, none⟩) := by rw [← Array.getD_eq_getD_getElem?]; exact e6
      refine opU_val (C := fun w' => Below w.heap.size w w' ∧ w'.heap[w1.heap.size]? = some (.cells zHead 37 (0, 0)) ∧ (w'.heap[w.heap.size]? = some (.cells zEnt 23 (0, 0)) ∨ w'.heap[w.heap.size]? = some (.cells #[.int .i64 0, .string ⟨#[]⟩, .string ⟨#[]⟩, .int .i64 0, .int .i64 0, .int .i64 0, .int .i64 0, .string ⟨#[]⟩, .string ⟨#[]⟩, .string ⟨#[]⟩] 23 (0, 0)))) (St := fun x y => y.heap[w.heap.size]? = x.heap[w.heap.size]? ∨ y.heap[w.heap.size]? = some (.cells #[.int .i64 0, .string ⟨#[]⟩, .string ⟨#[]⟩, .int .i64 0, .int .i64 0, .int .i64 0, .int .i64 0, .string ⟨#[]⟩, .string ⟨#[]⟩, .string ⟨#[]⟩] 23 (0, 0))) (V := fun d v _ => match d with | 13 => v = .pointer (some ⟨w1.heap.size, 0, none⟩) | 14 => v = .agg #[.int .i64 0, .string ⟨#[]⟩, .string ⟨#[]⟩, .int .i64 0, .int .i64 0, .int .i64 0, .int .i64 0, .string ⟨#[]⟩, .string ⟨#[]⟩, .string ⟨#[]⟩] | 15 => v = .pointer (some ⟨w1.heap.size, 10, none⟩) | 16 => v = .string ⟨#[]⟩ | 17 => v = .pointer (some ⟨w1.heap.size, 11, none⟩) | 18 => v = .int .i64 0 | 19 => v = .iface 81 (.agg #[.int .i64 cd]) | 20 => v = .int .i64 cd | 3 => v = .string ⟨#[]⟩ | 4 => v = .int .i64 0 | 5 => v = .int .i64 cd | _ => True) (U := fun o w' => o.dst = none → w'.heap[w.heap.size]? = some (.cells #[.int .i64 0, .string ⟨#[]⟩, .string ⟨#[]⟩, .int .i64 0, .int .i64 0, .int .i64 0, .int .i64 0, .string ⟨#[]⟩, .string ⟨#[]⟩, .string ⟨#[]⟩] 23 (0, 0))) (w' := w2) (.pointer (some ⟨w1.heap.size, 11, none⟩)) ?_ ?_ ?_ ?_ ?_
      · (clear hV hI hC; go_simp <;> (first | rfl | simp))
      · exact hC
      · exact Or.inl rfl
      · intro d hd; cases hd; rfl
      · intro h; cases h
    case o18 =>
      intro Q a w2 hC hV hI
      have e17 : a.eval (.tmp 17) = .pointer (some ⟨w1.heap.size, 11, none⟩) := hV 17 (by simp [Op.operands]) (by kernel_rfl)
      have f17 : a.tmps.getD 17 undef = .pointer (some ⟨w1.heap.size, 11, none⟩) := e17
      have g17 : a.tmps[17]?.getD undef = .pointer (some ⟨w1.heap.size, 11, none⟩) := by rw [← Array.getD_eq_getD_getElem?]; exact e17
      have hK := KC.out w2 hC.2.1
      refine opU_val (C := fun w' => Below w.heap.size w w' ∧ w'.heap[w1.heap.size]? = some (.cells zHead 37 (0, 0)) ∧ (w'.heap[w.heap.size]? = some (.cells zEnt 23 (0, 0)) ∨ w'.heap[w.heap.size]? = some (.cells #[.int .i64 0, .string ⟨#[]⟩, .string ⟨#[]⟩, .int .i64 0, .int .i64 0, .int .i64 0, .int .i64 0, .string ⟨#[]⟩, .string ⟨#[]⟩, .string ⟨#[]⟩] 23 (0, 0)))) (St := fun x y => y.heap[w.heap.size]? = x.heap[w.heap.size]? ∨ y.heap[w.heap.size]? = some (.cells #[.int .i64 0, .string ⟨#[]⟩, .string ⟨#[]⟩, .int .i64 0, .int .i64 0, .int .i64 0, .int .i64 0, .string ⟨#[]⟩, .string ⟨#[]⟩, .string ⟨#[]⟩] 23 (0, 0))) (V := fun d v _ => match d with | 13 => v = .pointer (some ⟨w1.heap.size, 0, none⟩) | 14 => v = .agg #[.int .i64 0, .string ⟨#[]⟩, .string ⟨#[]⟩, .int .i64 0, .int .i64 0, .int .i64 0, .int .i64 0, .string ⟨#[]⟩, .string ⟨#[]⟩, .string ⟨#[]⟩] | 15 => v = .pointer (some ⟨w1.heap.size, 10, none⟩) | 16 => v = .string ⟨#[]⟩ | 17 => v = .pointer (some ⟨w1.heap.size, 11, none⟩) | 18 => v = .int .i64 0 | 19 => v = .iface 81 (.agg #[.int .i64 cd]) | 20 => v = .int .i64 cd | 3 => v = .string ⟨#[]⟩ | 4 => v = .int .i64 0 | 5 => v = .int .i64 cd | _ => True) (U := fun o w' => o.dst = none → w'.heap[w.heap.size]? = some (.cells #[.int .i64 0, .string ⟨#[]⟩, .string ⟨#[]⟩, .int .i64 0, .int .i64 0, .int .i64 0, .int .i64 0, .string ⟨#[]⟩, .string ⟨#[]⟩, .string ⟨#[]⟩] 23 (0, 0))) (w' := w2) (.int .i64 0) ?_ ?_ ?_ ?_ ?_
      · (clear hV hI hC; go_simp <;> (first | rfl | simp))
      · exact hC
      · exact Or.inl rfl
      · intro d hd; cases hd; rfl
      · intro h; cases h
    case o19 =>
      intro Q a w2 hC hV hI
      have e7 : a.eval (.tmp 7) = .iface 81 (.agg #[.int .i64 cd]) := (hI 7 (by simp [Op.operands]) (by kernel_rfl)).trans rfl
      have f7 : a.tmps.getD 7 undef = .iface 81 (.agg #[.int .i64 cd]) := e7
      have g7 : a.tmps[7]?.getD undef = .iface 81 (.agg #[.int .i64 cd]) := by rw [← Array.getD_eq_getD_getElem?]; exact e7
      refine opU_val (C := fun w' => Below w.heap.size w w' ∧ w'.heap[w1.heap.size]? = some (.cells zHead 37 (0, 0)) ∧ (w'.heap[w.heap.size]? = some (.cells zEnt 23 (0, 0)) ∨ w'.heap[w.heap.size]? = some (.cells #[.int .i64 0, .string ⟨#[]⟩, .string ⟨#[]⟩, .int .i64 0, .int .i64 0, .int .i64 0, .int .i64 0, .string ⟨#[]⟩, .string ⟨#[]⟩, .string ⟨#[]⟩] 23 (0, 0)))) (St := fun x y => y.heap[w.heap.size]? = x.heap[w.heap.size]? ∨ y.heap[w.heap.size]? = some (.cells #[.int .i64 0, .string ⟨#[]⟩, .string ⟨#[]⟩, .int .i64 0, .int .i64 0, .int .i64 0, .int .i64 0, .string ⟨#[]⟩, .string ⟨#[]⟩, .string ⟨#[]⟩] 23 (0, 0))) (V := fun d v _ => match d with | 13 => v = .pointer (some ⟨w1.heap.size, 0, none⟩) | 14 => v = .agg #[.int .i64 0, .string ⟨#[]⟩, .string ⟨#[]⟩, .int .i64 0, .int .i64 0, .int .i64 0, .int .i64 0, .string ⟨#[]⟩, .string ⟨#[]⟩, .string ⟨#[]⟩] | 15 => v = .pointer (some ⟨w1.heap.size, 10, none⟩) | 16 => v = .string ⟨#[]⟩ | 17 => v = .pointer (some ⟨w1.heap.size, 11, none⟩) | 18 => v = .int .i64 0 | 19 => v = .iface 81 (.agg #[.int .i64 cd]) | 20 => v = .int .i64 cd | 3 => v = .string ⟨#[]⟩ | 4 => v = .int .i64 0 | 5 => v = .int .i64 cd | _ => True) (U := fun o w' => o.dst = none → w'.heap[w.heap.size]? = some (.cells #[.int .i64 0, .string ⟨#[]⟩, .string ⟨#[]⟩, .int .i64 0, .int .i64 0, .int .i64 0, .int .i64 0, .string ⟨#[]⟩, .string ⟨#[]⟩, .string ⟨#[]⟩] 23 (0, 0))) (w' := w2) (.iface 81 (.agg #[.int .i64 cd])) ?_ ?_ ?_ ?_ ?_
      · (clear hV hI hC; go_simp <;> (first | rfl | simp))
      · exact hC
      · exact Or.inl rfl
      · intro d hd; cases hd; rfl
      · intro h; cases h
    case o20 =>
      intro Q a w2 hC hV hI
      have e19 : a.eval (.tmp 19) = .iface 81 (.agg #[.int .i64 cd]) := hV 19 (by simp [Op.operands, Call.operands]) (by kernel_rfl)
      have f19 : a.tmps.getD 19 undef = .iface 81 (.agg #[.int .i64 cd]) := e19
      have g19 : a.tmps[19]?.getD undef = .iface 81 (.agg #[.int .i64 cd]) := by rw [← Array.getD_eq_getD_getElem?]; exact e19
      refine opU_call (C := fun w' => Below w.heap.size w w' ∧ w'.heap[w1.heap.size]? = some (.cells zHead 37 (0, 0)) ∧ (w'.heap[w.heap.size]? = some (.cells zEnt 23 (0, 0)) ∨ w'.heap[w.heap.size]? = some (.cells #[.int .i64 0, .string ⟨#[]⟩, .string ⟨#[]⟩, .int .i64 0, .int .i64 0, .int .i64 0, .int .i64 0, .string ⟨#[]⟩, .string ⟨#[]⟩, .string ⟨#[]⟩] 23 (0, 0)))) (St := fun x y => y.heap[w.heap.size]? = x.heap[w.heap.size]? ∨ y.heap[w.heap.size]? = some (.cells #[.int .i64 0, .string ⟨#[]⟩, .string ⟨#[]⟩, .int .i64 0, .int .i64 0, .int .i64 0, .int .i64 0, .string ⟨#[]⟩, .string ⟨#[]⟩, .string ⟨#[]⟩] 23 (0, 0))) (V := fun d v _ => match d with | 13 => v = .pointer (some ⟨w1.heap.size, 0, none⟩) | 14 => v = .agg #[.int .i64 0, .string ⟨#[]⟩, .string ⟨#[]⟩, .int .i64 0, .int .i64 0, .int .i64 0, .int .i64 0, .string ⟨#[]⟩, .string ⟨#[]⟩, .string ⟨#[]⟩] | 15 => v = .pointer (some ⟨w1.heap.size, 10, none⟩) | 16 => v = .string ⟨#[]⟩ | 17 => v = .pointer (some ⟨w1.heap.size, 11, none⟩) | 18 => v = .int .i64 0 | 19 => v = .iface 81 (.agg #[.int .i64 cd]) | 20 => v = .int .i64 cd | 3 => v = .string ⟨#[]⟩ | 4 => v = .int .i64 0 | 5 => v = .int .i64 cd | _ => True) (U := fun o w' => o.dst = none → w'.heap[w.heap.size]? = some (.cells #[.int .i64 0, .string ⟨#[]⟩, .string ⟨#[]⟩, .int .i64 0, .int .i64 0, .int .i64 0, .int .i64 0, .string ⟨#[]⟩, .string ⟨#[]⟩, .string ⟨#[]⟩] 23 (0, 0))) (f := 26) (args := #[.iface 81 (.agg #[.int .i64 cd])]) (R := fun v y => v = .int .i64 cd ∧ Below w2.heap.size w2 y) ?_ ((HCo.out w2 (HH.out.below hC.1)).mono ?_) ?_
      · (clear hV hI hC; go_simp <;> (first | rfl | simp))
      · rintro e y ⟨rfl, hb⟩; exact ⟨_, rfl, rfl, hb⟩
      · rintro v y ⟨rfl, hb⟩; exact ⟨⟨hC.1.trans (hb.mono hC.1.size), (hb.block _ (obj_lt hC.2.1)).trans hC.2.1, hC.2.2.imp (fun h => (hb.block _ (obj_lt h)).trans h) (fun h => (hb.block _ (obj_lt h)).trans h)⟩, .inl (hb.block _ (Nat.lt_trans zRH (obj_lt hC.2.1))), (by intro d hd; cases hd; rfl), fun h => (by cases h)⟩
    case os8 =>
      intro Q a w2 hC hV hI
      have e2 : a.eval (.tmp 2) = .pointer (some ⟨w.heap.size, 0, none⟩) := (hI 2 (by simp [Op.operands]) (by kernel_rfl)).trans rfl
      have f2 : a.tmps.getD 2 undef = .pointer (some ⟨w.heap.size, 0, none⟩) := e2
      have g2 : a.tmps[2]?.getD undef = .pointer (some ⟨w.heap.size, 0, none⟩) := by rw [← Array.getD_eq_getD_getElem?]; exact e2
      have e14 : a.eval (.tmp 14) = .agg #[.int .i64 0, .string ⟨#[]⟩, .string ⟨#[]⟩, .int .i64 0, .int .i64 0, .int .i64 0, .int .i64 0, .string ⟨#[]⟩, .string ⟨#[]⟩, .string ⟨#[]⟩] := hV 14 (by simp [Op.operands]) (by kernel_rfl)
      have f14 : a.tmps.getD 14 undef = .agg #[.int .i64 0, .string ⟨#[]⟩, .string ⟨#[]⟩, .int .i64 0, .int .i64 0, .int .i64 0, .int .i64 0, .string ⟨#[]⟩, .string ⟨#[]⟩, .string ⟨#[]⟩] := e14
      have g14 : a.tmps[14]?.getD undef = .agg #[.int .i64 0, .string ⟨#[]⟩, .string ⟨#[]⟩, .int .i64 0, .int .i64 0, .int .i64 0, .int .i64 0, .string ⟨#[]⟩, .string ⟨#[]⟩, .string ⟨#[]⟩] := by rw [← Array.getD_eq_getD_getElem?]; exact e14
      have hS : ∀ cs : Array Value, cs.size = 10 → w2.heap[w.heap.size]? = some (.cells cs 23 (0, 0)) → _ := fun cs hc hR => run_storeVar_row (P := Tryz.prog) w2 w.heap.size 23 23 cs #[.int .i64 0, .string ⟨#[]⟩, .string ⟨#[]⟩, .int .i64 0, .int .i64 0, .int .i64 0, .int .i64 0, .string ⟨#[]⟩, .string ⟨#[]⟩, .string ⟨#[]⟩] hR (by rw [Tryz.sizeEnt]; rfl) hc (by simp [Value.oneCell'])
      have hR2 : (w2.setRow w.heap.size #[.int .i64 0, .string ⟨#[]⟩, .string ⟨#[]⟩, .int .i64 0, .int .i64 0, .int .i64 0, .int .i64 0, .string ⟨#[]⟩, .string ⟨#[]⟩, .string ⟨#[]⟩]).heap[w.heap.size]? = some (.cells #[.int .i64 0, .string ⟨#[]⟩, .string ⟨#[]⟩, .int .i64 0, .int .i64 0, .int .i64 0, .int .i64 0, .string ⟨#[]⟩, .string ⟨#[]⟩, .string ⟨#[]⟩] 23 (0, 0)) := hC.2.2.elim (fun h => setRow_heap _ _ _ _ _ _ h) (fun h => setRow_heap _ _ _ _ _ _ h)
      refine opU_store (C := fun w' => Below w.heap.size w w' ∧ w'.heap[w1.heap.size]? = some (.cells zHead 37 (0, 0)) ∧ (w'.heap[w.heap.size]? = some (.cells zEnt 23 (0, 0)) ∨ w'.heap[w.heap.size]? = some (.cells #[.int .i64 0, .string ⟨#[]⟩, .string ⟨#[]⟩, .int .i64 0, .int .i64 0, .int .i64 0, .int .i64 0, .string ⟨#[]⟩, .string ⟨#[]⟩, .string ⟨#[]⟩] 23 (0, 0)))) (St := fun x y => y.heap[w.heap.size]? = x.heap[w.heap.size]? ∨ y.heap[w.heap.size]? = some (.cells #[.int .i64 0, .string ⟨#[]⟩, .string ⟨#[]⟩, .int .i64 0, .int .i64 0, .int .i64 0, .int .i64 0, .string ⟨#[]⟩, .string ⟨#[]⟩, .string ⟨#[]⟩] 23 (0, 0))) (V := fun d v _ => match d with | 13 => v = .pointer (some ⟨w1.heap.size, 0, none⟩) | 14 => v = .agg #[.int .i64 0, .string ⟨#[]⟩, .string ⟨#[]⟩, .int .i64 0, .int .i64 0, .int .i64 0, .int .i64 0, .string ⟨#[]⟩, .string ⟨#[]⟩, .string ⟨#[]⟩] | 15 => v = .pointer (some ⟨w1.heap.size, 10, none⟩) | 16 => v = .string ⟨#[]⟩ | 17 => v = .pointer (some ⟨w1.heap.size, 11, none⟩) | 18 => v = .int .i64 0 | 19 => v = .iface 81 (.agg #[.int .i64 cd]) | 20 => v = .int .i64 cd | 3 => v = .string ⟨#[]⟩ | 4 => v = .int .i64 0 | 5 => v = .int .i64 cd | _ => True) (U := fun o w' => o.dst = none → w'.heap[w.heap.size]? = some (.cells #[.int .i64 0, .string ⟨#[]⟩, .string ⟨#[]⟩, .int .i64 0, .int .i64 0, .int .i64 0, .int .i64 0, .string ⟨#[]⟩, .string ⟨#[]⟩, .string ⟨#[]⟩] 23 (0, 0))) 23 _ _ rfl rfl ⟨w.heap.size, 0, none⟩ e2 e14 (hC.2.2.elim (fun h => hS _ rfl h) (fun h => hS _ rfl h)) ?_ ?_ ?_
      · exact ⟨hC.1.trans (below_set (Nat.le_refl _) _), by rw [setRow_other _ _ _ _ (by omega)]; exact hC.2.1, Or.inr hR2⟩
      · exact Or.inr hR2
      · intro _; exact hR2
    case o3 =>
      intro Q a w2 hC hV hI
      have e16 : a.eval (.tmp 16) = .string ⟨#[]⟩ := hV 16 (by simp [Op.operands]) (by kernel_rfl)
      have f16 : a.tmps.getD 16 undef = .string ⟨#[]⟩ := e16
      have g16 : a.tmps[16]?.getD undef = .string ⟨#[]⟩ := by rw [← Array.getD_eq_getD_getElem?]; exact e16
      refine opU_val (C := fun w' => Below w.heap.size w w' ∧ w'.heap[w1.heap.size]? = some (.cells zHead 37 (0, 0)) ∧ (w'.heap[w.heap.size]? = some (.cells zEnt 23 (0, 0)) ∨ w'.heap[w.heap.size]? = some (.cells #[.int .i64 0, .string ⟨#[]⟩, .string ⟨#[]⟩, .int .i64 0, .int .i64 0, .int .i64 0, .int .i64 0, .string ⟨#[]⟩, .string ⟨#[]⟩, .string ⟨#[]⟩] 23 (0, 0)))) (St := fun x y => y.heap[w.heap.size]? = x.heap[w.heap.size]? ∨ y.heap[w.heap.size]? = some (.cells #[.int .i64 0, .string ⟨#[]⟩, .string ⟨#[]⟩, .int .i64 0, .int .i64 0, .int .i64 0, .int .i64 0, .string ⟨#[]⟩, .string ⟨#[]⟩, .string ⟨#[]⟩] 23 (0, 0))) (V := fun d v _ => match d with | 13 => v = .pointer (some ⟨w1.heap.size, 0, none⟩) | 14 => v = .agg #[.int .i64 0, .string ⟨#[]⟩, .string ⟨#[]⟩, .int .i64 0, .int .i64 0, .int .i64 0, .int .i64 0, .string ⟨#[]⟩, .string ⟨#[]⟩, .string ⟨#[]⟩] | 15 => v = .pointer (some ⟨w1.heap.size, 10, none⟩) | 16 => v = .string ⟨#[]⟩ | 17 => v = .pointer (some ⟨w1.heap.size, 11, none⟩) | 18 => v = .int .i64 0 | 19 => v = .iface 81 (.agg #[.int .i64 cd]) | 20 => v = .int .i64 cd | 3 => v = .string ⟨#[]⟩ | 4 => v = .int .i64 0 | 5 => v = .int .i64 cd | _ => True) (U := fun o w' => o.dst = none → w'.heap[w.heap.size]? = some (.cells #[.int .i64 0, .string ⟨#[]⟩, .string ⟨#[]⟩, .int .i64 0, .int .i64 0, .int .i64 0, .int .i64 0, .string ⟨#[]⟩, .string ⟨#[]⟩, .string ⟨#[]⟩] 23 (0, 0))) (w' := w2) (.string ⟨#[]⟩) ?_ ?_ ?_ ?_ ?_
      · (clear hV hI hC; go_simp <;> (first | rfl | simp))
      · exact hC
      · exact Or.inl rfl
      · intro d hd; cases hd; rfl
      · intro h; cases h
    case o4 =>
      intro Q a w2 hC hV hI
      have e18 : a.eval (.tmp 18) = .int .i64 0 := hV 18 (by simp [Op.operands]) (by kernel_rfl)
      have f18 : a.tmps.getD 18 undef = .int .i64 0 := e18
      have g18 : a.tmps[18]?.getD undef = .int .i64 0 := by rw [← Array.getD_eq_getD_getElem?]; exact e18
      refine opU_val (C := fun w' => Below w.heap.size w w' ∧ w'.heap[w1.heap.size]? = some (.cells zHead 37 (0, 0)) ∧ (w'.heap[w.heap.size]? = some (.cells zEnt 23 (0, 0)) ∨ w'.heap[w.heap.size]? = some (.cells #[.int .i64 0, .string ⟨#[]⟩, .string ⟨#[]⟩, .int .i64 0, .int .i64 0, .int .i64 0, .int .i64 0, .string ⟨#[]⟩, .string ⟨#[]⟩, .string ⟨#[]⟩] 23 (0, 0)))) (St := fun x y => y.heap[w.heap.size]? = x.heap[w.heap.size]? ∨ y.heap[w.heap.size]? = some (.cells #[.int .i64 0, .string ⟨#[]⟩, .string ⟨#[]⟩, .int .i64 0, .int .i64 0, .int .i64 0, .int .i64 0, .string ⟨#[]⟩, .string ⟨#[]⟩, .string ⟨#[]⟩] 23 (0, 0))) (V := fun d v _ => match d with | 13 => v = .pointer (some ⟨w1.heap.size, 0, none⟩) | 14 => v = .agg #[.int .i64 0, .string ⟨#[]⟩, .string ⟨#[]⟩, .int .i64 0, .int .i64 0, .int .i64 0, .int .i64 0, .string ⟨#[]⟩, .string ⟨#[]⟩, .string ⟨#[]⟩] | 15 => v = .pointer (some ⟨w1.heap.size, 10, none⟩) | 16 => v = .string ⟨#[]⟩ | 17 => v = .pointer (some ⟨w1.heap.size, 11, none⟩) | 18 => v = .int .i64 0 | 19 => v = .iface 81 (.agg #[.int .i64 cd]) | 20 => v = .int .i64 cd | 3 => v = .string ⟨#[]⟩ | 4 => v = .int .i64 0 | 5 => v = .int .i64 cd | _ => True) (U := fun o w' => o.dst = none → w'.heap[w.heap.size]? = some (.cells #[.int .i64 0, .string ⟨#[]⟩, .string ⟨#[]⟩, .int .i64 0, .int .i64 0, .int .i64 0, .int .i64 0, .string ⟨#[]⟩, .string ⟨#[]⟩, .string ⟨#[]⟩] 23 (0, 0))) (w' := w2) (.int .i64 0) ?_ ?_ ?_ ?_ ?_
      · (clear hV hI hC; go_simp <;> (first | rfl | simp))
      · exact hC
      · exact Or.inl rfl
      · intro d hd; cases hd; rfl
      · intro h; cases h
    case o5 =>
      intro Q a w2 hC hV hI
      have e20 : a.eval (.tmp 20) = .int .i64 cd := hV 20 (by simp [Op.operands]) (by kernel_rfl)
      have f20 : a.tmps.getD 20 undef = .int .i64 cd := e20
      have g20 : a.tmps[20]?.getD undef = .int .i64 cd := by rw [← Array.getD_eq_getD_getElem?]; exact e20
      refine opU_val (C := fun w' => Below w.heap.size w w' ∧ w'.heap[w1.heap.size]? = some (.cells zHead 37 (0, 0)) ∧ (w'.heap[w.heap.size]? = some (.cells zEnt 23 (0, 0)) ∨ w'.heap[w.heap.size]? = some (.cells #[.int .i64 0, .string ⟨#[]⟩, .string ⟨#[]⟩, .int .i64 0, .int .i64 0, .int .i64 0, .int .i64 0, .string ⟨#[]⟩, .string ⟨#[]⟩, .string ⟨#[]⟩] 23 (0, 0)))) (St := fun x y => y.heap[w.heap.size]? = x.heap[w.heap.size]? ∨ y.heap[w.heap.size]? = some (.cells #[.int .i64 0, .string ⟨#[]⟩, .string ⟨#[]⟩, .int .i64 0, .int .i64 0, .int .i64 0, .int .i64 0, .string ⟨#[]⟩, .string ⟨#[]⟩, .string ⟨#[]⟩] 23 (0, 0))) (V := fun d v _ => match d with | 13 => v = .pointer (some ⟨w1.heap.size, 0, none⟩) | 14 => v = .agg #[.int .i64 0, .string ⟨#[]⟩, .string ⟨#[]⟩, .int .i64 0, .int .i64 0, .int .i64 0, .int .i64 0, .string ⟨#[]⟩, .string ⟨#[]⟩, .string ⟨#[]⟩] | 15 => v = .pointer (some ⟨w1.heap.size, 10, none⟩) | 16 => v = .string ⟨#[]⟩ | 17 => v = .pointer (some ⟨w1.heap.size, 11, none⟩) | 18 => v = .int .i64 0 | 19 => v = .iface 81 (.agg #[.int .i64 cd]) | 20 => v = .int .i64 cd | 3 => v = .string ⟨#[]⟩ | 4 => v = .int .i64 0 | 5 => v = .int .i64 cd | _ => True) (U := fun o w' => o.dst = none → w'.heap[w.heap.size]? = some (.cells #[.int .i64 0, .string ⟨#[]⟩, .string ⟨#[]⟩, .int .i64 0, .int .i64 0, .int .i64 0, .int .i64 0, .string ⟨#[]⟩, .string ⟨#[]⟩, .string ⟨#[]⟩] 23 (0, 0))) (w' := w2) (.int .i64 cd) ?_ ?_ ?_ ?_ ?_
      · (clear hV hI hC; go_simp <;> (first | rfl | simp))
      · exact hC
      · exact Or.inl rfl
      · intro d hd; cases hd; rfl
      · intro h; cases h
  case hend =>
    intro f w5 hC hall huall
    simp only [List.forall_mem_cons] at hall
    obtain ⟨h13, h14, h15, h16, h17, h18, h19, h20, _, h3, h4, h5, _⟩ := hall
    simp only [List.forall_mem_cons] at huall
    obtain ⟨_, _, _, _, _, _, _, _, hus, _, _, _, _⟩ := huall
    replace h13 : f 13 = .pointer (some ⟨w1.heap.size, 0, none⟩) := h13 13 rfl
    replace h14 : f 14 = .agg #[.int .i64 0, .string ⟨#[]⟩, .string ⟨#[]⟩, .int .i64 0, .int .i64 0, .int .i64 0, .int .i64 0, .string ⟨#[]⟩, .string ⟨#[]⟩, .string ⟨#[]⟩] := h14 14 rfl
    replace h15 : f 15 = .pointer (some ⟨w1.heap.size, 10, none⟩) := h15 15 rfl
    replace h16 : f 16 = .string ⟨#[]⟩ := h16 16 rfl
    replace h17 : f 17 = .pointer (some ⟨w1.heap.size, 11, none⟩) := h17 17 rfl
    replace h18 : f 18 = .int .i64 0 := h18 18 rfl
    replace h19 : f 19 = .iface 81 (.agg #[.int .i64 cd]) := h19 19 rfl
    replace h20 : f 20 = .int .i64 cd := h20 20 rfl
    replace h3 : f 3 = .string ⟨#[]⟩ := h3 3 rfl
    replace h4 : f 4 = .int .i64 0 := h4 4 rfl
    replace h5 : f 5 = .int .i64 cd := h5 5 rfl
    simp only [putAll, Act.put, List.setIfInBounds_toArray, List.set_cons_succ, List.set_cons_zero, h13, h14, h15, h16, h17, h18, h19, h20, h3, h4, h5]
    clear h13 h14 h15 h16 h17 h18 h19 h20 h3 h4 h5
    have R5 := Lib.hid (hus trivial)
    have B5 := Lib.hid hC.1
    clear hC hus
    go_wp2
    refine bodyPost_ret (results_cell4 rfl _ _ w.heap.size _ #[.int .i64 0, .string ⟨#[]⟩, .string ⟨#[]⟩, .int .i64 0, .int .i64 0, .int .i64 0, .int .i64 0, .string ⟨#[]⟩, .string ⟨#[]⟩, .string ⟨#[]⟩] (0, 0) _ rfl R5.out Tryz.underlying23 rfl (by rw [Tryz.sizeEnt]; rfl)) rfl ?_
    rw [HE.out]
    exact ⟨rfl, B5.out⟩
set_option maxHeartbeats 6400000 in
set_option maxRecDepth 8000 in
theorem getHead_good (s : ByteArray) (w : World) (hs : s.size ≤ 1048576) (hc : hdc s = 0) (hT : Tabs w) (hF : FW w) (hH : Handle w) :
    Calls Tryz.prog 9 #[.string s] w fun e w' => e = .returned (getV s) ∧ Below w.heap.size w w' := by
  have H1 := Lib.hid (fun w hT hF => readHead_any s w hs hT hF)
  rw [((readV_code s).resolve_right (fun h => h.1 hc)).2, okCells] at H1
  have HE : Hid (getV s = .tuple #[.agg #[.int .i64 0, .string (pathL (lOf s)), .string (cutv (fW (lOf s) 8)), .int .i64 (fnumv (fW (lOf s) 1)), .int .i64 (fnumv (fW (lOf s) 2)), .int .i64 (fnumv (fW (lOf s) 3)), .int .i64 (fnumv (fW (lOf s) 5)), .string (cutv (fW (lOf s) 10)), .string (cutv (fW (lOf s) 11)), .string ⟨#[]⟩], .string (fW (lOf s) 7), .int .i64 (fnumv (fW (lOf s) 4)), .int .i64 0]) := Lib.hid (by rw [getV, if_pos hc]; rfl)
  have HCo := Lib.hid codeOf_nil
  generalize pathL (lOf s) = pth at *
  generalize cutv (fW (lOf s) 8) = lk at *
  generalize cutv (fW (lOf s) 10) = us at *
  generalize cutv (fW (lOf s) 11) = gr at *
  generalize fnumv (fW (lOf s) 1) = nm at *
  generalize fnumv (fW (lOf s) 2) = nu at *
  generalize fnumv (fW (lOf s) 3) = ng at *
  generalize fnumv (fW (lOf s) 5) = nt at *
  generalize fnumv (fW (lOf s) 4) = nz at *
  generalize fW (lOf s) 7 = fl at *
  clear hc
  have B0 := Lib.hid ((Below.refl w.heap.size w).alloc (Nat.le_refl _) (.cells zEnt 23))
  have R0 : Hid ((w.alloc (.cells zEnt 23)).heap[w.heap.size]? = some (.cells zEnt 23 (0, 0))) := Lib.hid (heap_alloc_last _ _)
  have HT0 := Lib.hid (hT.below B0.out)
  have HF0 := Lib.hid (hF.below B0.out)
  have HH := Lib.hid hH
  clear hT hF hH
  go_enter Tryz.func9, Tryz.ntmps9
  go_wp2_with fail
  refine (H1.out _ HT0.out HF0.out).mono ?_
  rintro e w1 ⟨rfl, hb1⟩
  have RO1 := Lib.hid ((hb1.block w.heap.size (by simp)).trans R0.out)
  have B1 := Lib.hid (B0.out.trans (hb1.mono (by simp)))
  clear hb1 R0 B0 H1 HT0 HF0
  have zR1 := obj_lt RO1.out
  have HSn := Lib.hid (run_storeVar_new (P := Tryz.prog) w1 37 zHead #[.int .i64 0, .string pth, .string lk, .int .i64 nm, .int .i64 nu, .int .i64 ng, .int .i64 nt, .string us, .string gr, .string ⟨#[]⟩, .string fl, .int .i64 nz] (by rw [Tryz.sizeHd]; rfl) rfl (by simp [Value.oneCell']))
  go_wp2_with ((with_reducible refine wpList_store_eq rfl 37 _ _ rfl ⟨w1.heap.size, 0, none⟩ ?_ ?_ HSn.out ?_); rfl; rfl)
  have OB := heap_alloc_last w1 (.cells #[.int .i64 0, .string pth, .string lk, .int .i64 nm, .int .i64 nu, .int .i64 ng, .int .i64 nt, .string us, .string gr, .string ⟨#[]⟩, .string fl, .int .i64 nz] 37)
  have BX := (Below.refl w1.heap.size w1).alloc (Nat.le_refl _) (.cells #[.int .i64 0, .string pth, .string lk, .int .i64 nm, .int .i64 nu, .int .i64 ng, .int .i64 nt, .string us, .string gr, .string ⟨#[]⟩, .string fl, .int .i64 nz] 37)
  generalize w1.alloc (.cells #[.int .i64 0, .string pth, .string lk, .int .i64 nm, .int .i64 nu, .int .i64 ng, .int .i64 nt, .string us, .string gr, .string ⟨#[]⟩, .string fl, .int .i64 nz] 37) = w4 at *
  have OB' := Lib.hid OB
  have RO4 := Lib.hid ((BX.block _ (obj_lt RO1.out)).trans RO1.out)
  have B4 := Lib.hid (B1.out.trans (BX.mono B1.out.size))
  clear OB BX RO1 B1 HSn
  have zR4 := obj_lt RO4.out
  have KC : Hid (∀ w' : World, w'.heap[w1.heap.size]? = some (.cells #[.int .i64 0, .string pth, .string lk, .int .i64 nm, .int .i64 nu, .int .i64 ng, .int .i64 nt, .string us, .string gr, .string ⟨#[]⟩, .string fl, .int .i64 nz] 37 (0, 0)) → w'.cell? ⟨w1.heap.size, 0, none⟩ = some (.int .i64 0) ∧ w'.cell? ⟨w1.heap.size, 1, none⟩ = some (.string pth) ∧ w'.cell? ⟨w1.heap.size, 2, none⟩ = some (.string lk) ∧ w'.cell? ⟨w1.heap.size, 3, none⟩ = some (.int .i64 nm) ∧ w'.cell? ⟨w1.heap.size, 4, none⟩ = some (.int .i64 nu) ∧ w'.cell? ⟨w1.heap.size, 5, none⟩ = some (.int .i64 ng) ∧ w'.cell? ⟨w1.heap.size, 6, none⟩ = some (.int .i64 nt) ∧ w'.cell? ⟨w1.heap.size, 7, none⟩ = some (.string us) ∧ w'.cell? ⟨w1.heap.size, 8, none⟩ = some (.string gr) ∧ w'.cell? ⟨w1.heap.size, 9, none⟩ = some (.string ⟨#[]⟩) ∧ w'.cell? ⟨w1.heap.size, 10, none⟩ = some (.string fl) ∧ w'.cell? ⟨w1.heap.size, 11, none⟩ = some (.int .i64 nz)) := Lib.hid (fun w' h1 => by
    refine ⟨?_, ?_, ?_, ?_, ?_, ?_, ?_, ?_, ?_, ?_, ?_, ?_⟩
    all_goals (rw [cell_of_row _ _ _ _ _ _ h1]; rfl))
  have zRH : w.heap.size < w1.heap.size := zR1
  refine wp_region_u (by kernel_rfl) (fun w' => Below w.heap.size w w' ∧ w'.heap[w1.heap.size]? = some (.cells #[.int .i64 0, .string pth, .string lk, .int .i64 nm, .int .i64 nu, .int .i64 ng, .int .i64 nt, .string us, .string gr, .string ⟨#[]⟩, .string fl, .int .i64 nz] 37 (0, 0)) ∧ (w'.heap[w.heap.size]? = some (.cells zEnt 23 (0, 0)) ∨ w'.heap[w.heap.size]? = some (.cells #[.int .i64 0, .string pth, .string lk, .int .i64 nm, .int .i64 nu, .int .i64 ng, .int .i64 nt, .string us, .string gr, .string ⟨#[]⟩] 23 (0, 0)))) (fun x y => y.heap[w.heap.size]? = x.heap[w.heap.size]? ∨ y.heap[w.heap.size]? = some (.cells #[.int .i64 0, .string pth, .string lk, .int .i64 nm, .int .i64 nu, .int .i64 ng, .int .i64 nt, .string us, .string gr, .string ⟨#[]⟩] 23 (0, 0))) (fun d v _ => match d with | 13 => v = .pointer (some ⟨w1.heap.size, 0, none⟩) | 14 => v = .agg #[.int .i64 0, .string pth, .string lk, .int .i64 nm, .int .i64 nu, .int .i64 ng, .int .i64 nt, .string us, .string gr, .string ⟨#[]⟩] | 15 => v = .pointer (some ⟨w1.heap.size, 10, none⟩) | 16 => v = .string fl | 17 => v = .pointer (some ⟨w1.heap.size, 11, none⟩) | 18 => v = .int .i64 nz | 19 => v = .nilIface | 20 => v = .int .i64 0 | 3 => v = .string fl | 4 => v = .int .i64 nz | 5 => v = .int .i64 0 | _ => True) (fun o w' => o.dst = none → w'.heap[w.heap.size]? = some (.cells #[.int .i64 0, .string pth, .string lk, .int .i64 nm, .int .i64 nu, .int .i64 ng, .int .i64 nt, .string us, .string gr, .string ⟨#[]⟩] 23 (0, 0))) (by kernel_rfl) ⟨B4.out.drew, OB'.out, .inl RO4.out⟩ (fun _ _ _ _ _ _ h => h) (fun _ _ _ _ hs hu hd => Or.elim hs (fun h => h.trans (hu hd)) (fun h => h)) ?hops ?hend
  case hops =>
    simp only [List.forall_mem_cons]
    refine ⟨?o13, ?o14, ?o15, ?o16, ?o17, ?o18, ?o19, ?o20, ?os8, ?o3, ?o4, ?o5, fun _ h => by cases h⟩
    case o13 =>
      intro Q a w2 hC hV hI
      have e6 : a.eval (.tmp 6) = .pointer (some ⟨w1.heap.size, 0, none⟩) := (hI 6 (by simp [Op.operands]) (by kernel_rfl)).trans rfl
      have f6 : a.tmps.getD 6 undef = .pointer (some ⟨w1.heap.size, 0, none⟩) := e6
      have g6 : a.tmps[6]?.getD undef = .pointer (some ⟨w1.heap.size, 0, none⟩) := by rw [← Array.getD_eq_getD_getElem?]; exact e6
      refine opU_val (C := fun w' => Below w.heap.size w w' ∧ w'.heap[w1.heap.size]? = some (.cells #[.int .i64 0, .string pth, .string lk, .int .i64 nm, .int .i64 nu, .int .i64 ng, .int .i64 nt, .string us, .string gr, .string ⟨#[]⟩, .string fl, .int .i64 nz] 37 (0, 0)) ∧ (w'.heap[w.heap.size]? = some (.cells zEnt 23 (0, 0)) ∨ w'.heap[w.heap.size]? = some (.cells #[.int .i64 0, .string pth, .string lk, .int .i64 nm, .int .i64 nu, .int .i64 ng, .int .i64 nt, .string us, .string gr, .string ⟨#[]⟩] 23 (0, 0)))) (St := fun x y => y.heap[w.heap.size]? = x.heap[w.heap.size]? ∨ y.heap[w.heap.size]? = some (.cells #[.int .i64 0, .string pth, .string lk, .int .i64 nm, .int .i64 nu, .int .i64 ng, .int .i64 nt, .string us, .string gr, .string ⟨#[]⟩] 23 (0, 0))) (V := fun d v _ => match d with | 13 => v = .pointer (some ⟨w1.heap.size, 0, none⟩) | 14 => v = .agg #[.int .i64 0, .string pth, .string lk, .int .i64 nm, .int .i64 nu, .int .i64 ng, .int .i64 nt, .string us, .string gr, .string ⟨#[]⟩] | 15 => v = .pointer (some ⟨w1.heap.size, 10, none⟩) | 16 => v = .string fl | 17 => v = .pointer (some ⟨w1.heap.size, 11, none⟩) | 18 => v = .int .i64 nz | 19 => v = .nilIface | 20 => v = .int .i64 0 | 3 => v = .string fl | 4 => v = .int .i64 nz | 5 => v = .int .i64 0 | _ => True) (U := fun o w' => o.dst = none → w'.heap[w.heap.size]? = some (.cells #[.int .i64 0, .string pth, .string lk, .int .i64 nm, .int .i64 nu, .int .i64 ng, .int .i64 nt, .string us, .string gr, .string ⟨#[]⟩] 23 (0, 0))) (w' := w2) (.pointer (some ⟨w1.heap.size, 0, none⟩)) ?_ ?_ ?_ ?_ ?_
      · (clear hV hI hC; go_simp <;> (first | rfl | simp))
      · exact hC
      · exact Or.inl rfl
      · intro d hd; cases hd; rfl
      · intro h; cases h
    case o14 =>
      intro Q a w2 hC hV hI
      have e13 : a.eval (.tmp 13) = .pointer (some ⟨w1.heap.size, 0, none⟩) := hV 13 (by simp [Op.operands]) (by kernel_rfl)
      have f13 : a.tmps.getD 13 undef = .pointer (some ⟨w1.heap.size, 0, none⟩) := e13
      have g13 : a.tmps[13]?.getD undef = .pointer (some ⟨w1.heap.size, 0, none⟩) := by rw [← Array.getD_eq_getD_getElem?]; exact e13
      have hK := KC.out w2 hC.2.1
      refine opU_val (C := fun w' => Below w.heap.size w w' ∧ w'.heap[w1.heap.size]? = some (.cells #[.int .i64 0, .string pth, .string lk, .int .i64 nm, .int .i64 nu, .int .i64 ng, .int .i64 nt, .string us, .string gr, .string ⟨#[]⟩, .string fl, .int .i64 nz] 37 (0, 0)) ∧ (w'.heap[w.heap.size]? = some (.cells zEnt 23 (0, 0)) ∨ w'.heap[w.heap.size]? = some (.cells #[.int .i64 0, .string pth, .string lk, .int .i64 nm, .int .i64 nu, .int .i64 ng, .int .i64 nt, .string us, .string gr, .string ⟨#[]⟩] 23 (0, 0)))) (St := fun x y => y.heap[w.heap.size]? = x.heap[w.heap.size]? ∨ y.heap[w.heap.size]? = some (.cells #[.int .i64 0, .string pth, .string lk, .int .i64 nm, .int .i64 nu, .int .i64 ng, .int .i64 nt, .string us, .string gr, .string ⟨#[]⟩] 23 (0, 0))) (V := fun d v _ => match d with | 13 => v = .pointer (some ⟨w1.heap.size, 0, none⟩) | 14 => v = .agg #[.int .i64 0, .string pth, .string lk, .int .i64 nm, .int .i64 nu, .int .i64 ng, .int .i64 nt, .string us, .string gr, .string ⟨#[]⟩] | 15 => v = .pointer (some ⟨w1.heap.size, 10, none⟩) | 16 => v = .string fl | 17 => v = .pointer (some ⟨w1.heap.size, 11, none⟩) | 18 => v = .int .i64 nz | 19 => v = .nilIface | 20 => v = .int .i64 0 | 3 => v = .string fl | 4 => v = .int .i64 nz | 5 => v = .int .i64 0 | _ => True) (U := fun o w' => o.dst = none → w'.heap[w.heap.size]? = some (.cells #[.int .i64 0, .string pth, .string lk, .int .i64 nm, .int .i64 nu, .int .i64 ng, .int .i64 nt, .string us, .string gr, .string ⟨#[]⟩] 23 (0, 0))) (w' := w2) (.agg #[.int .i64 0, .string pth, .string lk, .int .i64 nm, .int .i64 nu, .int .i64 ng, .int .i64 nt, .string us, .string gr, .string ⟨#[]⟩]) ?_ ?_ ?_ ?_ ?_
      · (clear hV hI hC; go_simp <;> (first | rfl | simp))
      · exact hC
      · exact Or.inl rfl
      · intro d hd; cases hd; rfl
      · intro h; cases h
    case o15 =>
      intro Q a w2 hC hV hI
      have e6 : a.eval (.tmp 6) = .pointer (some ⟨w1.heap.size, 0, none⟩) := (hI 6 (by simp [Op.operands]) (by kernel_rfl)).trans rfl
      have f6 : a.tmps.getD 6 undef = .pointer (some ⟨w1.heap.size, 0, none⟩) := e6
      have g6 : a.tmps[6]?.getD undef = .pointer (some ⟨w1.heap.size, 0, none⟩) := by rw [← Array.getD_eq_getD_getElem?]; exact e6
      refine opU_val (C := fun w' => Below w.heap.size w w' ∧ w'.heap[w1.heap.size]? = some (.cells #[.int .i64 0, .string pth, .string lk, .int .i64 nm, .int .i64 nu, .int .i64 ng, .int .i64 nt, .string us, .string gr, .string ⟨#[]⟩, .string fl, .int .i64 nz] 37 (0, 0)) ∧ (w'.heap[w.heap.size]? = some (.cells zEnt 23 (0, 0)) ∨ w'.heap[w.heap.size]? = some (.cells #[.int .i64 0, .string pth, .string lk, .int .i64 nm, .int .i64 nu, .int .i64 ng, .int .i64 nt, .string us, .string gr, .string ⟨#[]⟩] 23 (0, 0)))) (St := fun x y => y.heap[w.heap.size]? = x.heap[w.heap.size]? ∨ y.heap[w.heap.size]? = some (.cells #[.int .i64 0, .string pth, .string lk, .int .i64 nm, .int .i64 nu, .int .i64 ng, .int .i64 nt, .string us, .string gr, .string ⟨#[]⟩] 23 (0, 0))) (V := fun d v _ => match d with | 13 => v = .pointer (some ⟨w1.heap.size, 0, none⟩) | 14 => v = .agg #[.int .i64 0, .string pth, .string lk, .int .i64 nm, .int .i64 nu, .int .i64 ng, .int .i64 nt, .string us, .string gr, .string ⟨#[]⟩] | 15 => v = .pointer (some ⟨w1.heap.size, 10, none⟩) | 16 => v = .string fl | 17 => v = .pointer (some ⟨w1.heap.size, 11, none⟩) | 18 => v = .int .i64 nz | 19 => v = .nilIface | 20 => v = .int .i64 0 | 3 => v = .string fl | 4 => v = .int .i64 nz | 5 => v = .int .i64 0 | _ => True) (U := fun o w' => o.dst = none → w'.heap[w.heap.size]? = some (.cells #[.int .i64 0, .string pth, .string lk, .int .i64 nm, .int .i64 nu, .int .i64 ng, .int .i64 nt, .string us, .string gr, .string ⟨#[]⟩] 23 (0, 0))) (w' := w2) (.pointer (some ⟨w1.heap.size, 10, none⟩)) ?_ ?_ ?_ ?_ ?_
      · (clear hV hI hC; go_simp <;> (first | rfl | simp))
      · exact hC
      · exact Or.inl rfl
      · intro d hd; cases hd; rfl
      · intro h; cases h
    case o16 =>
      intro Q a w2 hC hV hI
      have e15 : a.eval (.tmp 15) = .pointer (some ⟨w1.heap.size, 10, none⟩) := hV 15 (by simp [Op.operands]) (by kernel_rfl)
      have f15 : a.tmps.getD 15 undef = .pointer (some ⟨w1.heap.size, 10, none⟩) := e15
      have g15 : a.tmps[15]?.getD undef = .pointer (some ⟨w1.heap.size, 10, none⟩) := by rw [← Array.getD_eq_getD_getElem?]; exact e15
      have hK := KC.out w2 hC.2.1
      refine opU_val (C := fun w' => Below w.heap.size w w' ∧ w'.heap[w1.heap.size]? = some (.cells #[.int .i64 0, .string pth, .string lk, .int .i64 nm, .int .i64 nu, .int .i64 ng, .int .i64 nt, .string us, .string gr, .string ⟨#[]⟩, .string fl, .int .i64 nz] 37 (0, 0)) ∧ (w'.heap[w.heap.size]? = some (.cells zEnt 23 (0, 0)) ∨ w'.heap[w.heap.size]? = some (.cells #[.int .i64 0, .string pth, .string lk, .int .i64 nm, .int .i64 nu, .int .i64 ng, .int .i64 nt, .string us, .string gr, .string ⟨#[]⟩] 23 (0, 0)))) (St := fun x y => y.heap[w.heap.size]? = x.heap[w.heap.size]? ∨ y.heap[w.heap.size]? = some (.cells #[.int .i64 0, .string pth, .string lk, .int .i64 nm, .int .i64 nu, .int .i64 ng, .int .i64 nt, .string us, .string gr, .string ⟨#[]⟩] 23 (0, 0))) (V := fun d v _ => match d with | 13 => v = .pointer (some ⟨w1.heap.size, 0, none⟩) | 14 => v = .agg #[.int .i64 0, .string pth, .string lk, .int .i64 nm, .int .i64 nu, .int .i64 ng, .int .i64 nt, .string us, .string gr, .string ⟨#[]⟩] | 15 => v = .pointer (some ⟨w1.heap.size, 10, none⟩) | 16 => v = .string fl | 17 => v = .pointer (some ⟨w1.heap.size, 11, none⟩) | 18 => v = .int .i64 nz | 19 => v = .nilIface | 20 => v = .int .i64 0 | 3 => v = .string fl | 4 => v = .int .i64 nz | 5 => v = .int .i64 0 | _ => True) (U := fun o w' => o.dst = none → w'.heap[w.heap.size]? = some (.cells #[.int .i64 0, .string pth, .string lk, .int .i64 nm, .int .i64 nu, .int .i64 ng, .int .i64 nt, .string us, .string gr, .string ⟨#[]⟩] 23 (0, 0))) (w' := w2) (.string fl) ?_ ?_ ?_ ?_ ?_
      · (clear hV hI hC; go_simp <;> (first | rfl | simp))
      · exact hC
      · exact Or.inl rfl
      · intro d hd; cases hd; rfl
      · intro h; cases h
    case o17 =>
      intro Q a w2 hC hV hI
      have e6 : a.eval (.tmp 6) = .pointer (some ⟨w1.heap.size, 0, none⟩) := (hI 6 (by simp [Op.operands]) (by kernel_rfl)).trans rfl
      have f6 : a.tmps.getD 6 undef = .pointer (some ⟨w1.heap.size, 0, none⟩) := e6
      have g6 : a.tmps[6]?.getD undef = .pointer (some ⟨w1.heap.size, 0, none⟩) := by rw [← Array.getD_eq_getD_getElem?]; exact e6
      refine opU_val (C := fun w' => Below w.heap.size w w' ∧ w'.heap[w1.heap.size]? = some (.cells #[.int .i64 0, .string pth, .string lk, .int .i64 nm, .int .i64 nu, .int .i64 ng, .int .i64 nt, .string us, .string gr, .string ⟨#[]⟩, .string fl, .int .i64 nz] 37 (0, 0)) ∧ (w'.heap[w.heap.size]? = some (.cells zEnt 23 (0, 0)) ∨ w'.heap[w.heap.size]? = some (.cells #[.int .i64 0, .string pth, .string lk, .int .i64 nm, .int .i64 nu, .int .i64 ng, .int .i64 nt, .string us, .string gr, .string ⟨#[]⟩] 23 (0, 0)))) (St := fun x y => y.heap[w.heap.size]? = x.heap[w.heap.size]? ∨ y.heap[w.heap.size]? = some (.cells #[.int .i64 0, .string pth, .string lk, .int .i64 nm, .int .i64 nu, .int .i64 ng, .int .i64 nt, .string us, .string gr, .string ⟨#[]⟩] 23 (0, 0))) (V := fun d v _ => match d with | 13 => v = .pointer (some ⟨w1.heap.size, 0, none⟩) | 14 => v = .agg #[.int .i64 0, .string pth, .string lk, .int .i64 nm, .int .i64 nu, .int .i64 ng, .int .i64 nt, .string us, .string gr, .string ⟨#[]⟩] | 15 => v = .pointer (some ⟨w1.heap.size, 10, none⟩) | 16 => v = .string fl | 17 => v = .pointer (some ⟨w1.heap.size, 11, none⟩) | 18 => v = .int .i64 nz | 19 => v = .nilIface | 20 => v = .int .i64 0 | 3 => v = .string fl | 4 => v = .int .i64 nz | 5 => v = .int .i64 0 | _ => True) (U := fun o w' => o.dst = none → w'.heap[w.heap.size]? = some (.cells #[.int .i64 0, .string pth, .string lk, .int .i64 nm, .int .i64 nu, .int .i64 ng, .int .i64 nt, .string us, .string gr, .string ⟨#[]⟩] 23 (0, 0))) (w' := w2) (.pointer (some ⟨w1.heap.size, 11, none⟩)) ?_ ?_ ?_ ?_ ?_
      · (clear hV hI hC; go_simp <;> (first | rfl | simp))
      · exact hC
      · exact Or.inl rfl
      · intro d hd; cases hd; rfl
      · intro h; cases h
    case o18 =>
      intro Q a w2 hC hV hI
      have e17 : a.eval (.tmp 17) = .pointer (some ⟨w1.heap.size, 11, none⟩) := hV 17 (by simp [Op.operands]) (by kernel_rfl)
      have f17 : a.tmps.getD 17 undef = .pointer (some ⟨w1.heap.size, 11, none⟩) := e17
      have g17 : a.tmps[17]?.getD undef = .pointer (some ⟨w1.heap.size, 11, none⟩) := by rw [← Array.getD_eq_getD_getElem?]; exact e17
      have hK := KC.out w2 hC.2.1
      refine opU_val (C := fun w' => Below w.heap.size w w' ∧ w'.heap[w1.heap.size]? = some (.cells #[.int .i64 0, .string pth, .string lk, .int .i64 nm, .int .i64 nu, .int .i64 ng, .int .i64 nt, .string us, .string gr, .string ⟨#[]⟩, .string fl, .int .i64 nz] 37 (0, 0)) ∧ (w'.heap[w.heap.size]? = some (.cells zEnt 23 (0, 0)) ∨ w'.heap[w.heap.size]? = some (.cells #[.int .i64 0, .string pth, .string lk, .int .i64 nm, .int .i64 nu, .int .i64 ng, .int .i64 nt, .string us, .string gr, .string ⟨#[]⟩] 23 (0, 0)))) (St := fun x y => y.heap[w.heap.size]? = x.heap[w.heap.size]? ∨ y.heap[w.heap.size]? = some (.cells #[.int .i64 0, .string pth, .string lk, .int .i64 nm, .int .i64 nu, .int .i64 ng, .int .i64 nt, .string us, .string gr, .string ⟨#[]⟩] 23 (0, 0))) (V := fun d v _ => match d with | 13 => v = .pointer (some ⟨w1.heap.size, 0, none⟩) | 14 => v = .agg #[.int .i64 0, .string pth, .string lk, .int .i64 nm, .int .i64 nu, .int .i64 ng, .int .i64 nt, .string us, .string gr, .string ⟨#[]⟩] | 15 => v = .pointer (some ⟨w1.heap.size, 10, none⟩) | 16 => v = .string fl | 17 => v = .pointer (some ⟨w1.heap.size, 11, none⟩) | 18 => v = .int .i64 nz | 19 => v = .nilIface | 20 => v = .int .i64 0 | 3 => v = .string fl | 4 => v = .int .i64 nz | 5 => v = .int .i64 0 | _ => True) (U := fun o w' => o.dst = none → w'.heap[w.heap.size]? = some (.cells #[.int .i64 0, .string pth, .string lk, .int .i64 nm, .int .i64 nu, .int .i64 ng, .int .i64 nt, .string us, .string gr, .string ⟨#[]⟩] 23 (0, 0))) (w' := w2) (.int .i64 nz) ?_ ?_ ?_ ?_ ?_
      · (clear hV hI hC; go_simp <;> (first | rfl | simp))
      · exact hC
      · exact Or.inl rfl
      · intro d hd; cases hd; rfl
      · intro h; cases h
    case o19 =>
      intro Q a w2 hC hV hI
      have e7 : a.eval (.tmp 7) = .nilIface := (hI 7 (by simp [Op.operands]) (by kernel_rfl)).trans rfl
      have f7 : a.tmps.getD 7 undef = .nilIface := e7
      have g7 : a.tmps[7]?.getD undef = .nilIface := by rw [← Array.getD_eq_getD_getElem?]; exact e7
      refine opU_val (C := fun w' => Below w.heap.size w w' ∧ w'.heap[w1.heap.size]? = some (.cells #[.int .i64 0, .string pth, .string lk, .int .i64 nm, .int .i64 nu, .int .i64 ng, .int .i64 nt, .string us, .string gr, .string ⟨#[]⟩, .string fl, .int .i64 nz] 37 (0, 0)) ∧ (w'.heap[w.heap.size]? = some (.cells zEnt 23 (0, 0)) ∨ w'.heap[w.heap.size]? = some (.cells #[.int .i64 0, .string pth, .string lk, .int .i64 nm, .int .i64 nu, .int .i64 ng, .int .i64 nt, .string us, .string gr, .string ⟨#[]⟩] 23 (0, 0)))) (St := fun x y => y.heap[w.heap.size]? = x.heap[w.heap.size]? ∨ y.heap[w.heap.size]? = some (.cells #[.int .i64 0, .string pth, .string lk, .int .i64 nm, .int .i64 nu, .int .i64 ng, .int .i64 nt, .string us, .string gr, .string ⟨#[]⟩] 23 (0, 0))) (V := fun d v _ => match d with | 13 => v = .pointer (some ⟨w1.heap.size, 0, none⟩) | 14 => v = .agg #[.int .i64 0, .string pth, .string lk, .int .i64 nm, .int .i64 nu, .int .i64 ng, .int .i64 nt, .string us, .string gr, .string ⟨#[]⟩] | 15 => v = .pointer (some ⟨w1.heap.size, 10, none⟩) | 16 => v = .string fl | 17 => v = .pointer (some ⟨w1.heap.size, 11, none⟩) | 18 => v = .int .i64 nz | 19 => v = .nilIface | 20 => v = .int .i64 0 | 3 => v = .string fl | 4 => v = .int .i64 nz | 5 => v = .int .i64 0 | _ => True) (U := fun o w' => o.dst = none → w'.heap[w.heap.size]? = some (.cells #[.int .i64 0, .string pth, .string lk, .int .i64 nm, .int .i64 nu, .int .i64 ng, .int .i64 nt, .string us, .string gr, .string ⟨#[]⟩] 23 (0, 0))) (w' := w2) (.nilIface) ?_ ?_ ?_ ?_ ?_
      · (clear hV hI hC; go_simp <;> (first | rfl | simp))
      · exact hC
      · exact Or.inl rfl
      · intro d hd; cases hd; rfl
      · intro h; cases h
    case o20 =>
      intro Q a w2 hC hV hI
      have e19 : a.eval (.tmp 19) = .nilIface := hV 19 (by simp [Op.operands, Call.operands]) (by kernel_rfl)
      have f19 : a.tmps.getD 19 undef = .nilIface := e19
      have g19 : a.tmps[19]?.getD undef = .nilIface := by rw [← Array.getD_eq_getD_getElem?]; exact e19
      refine opU_call (C := fun w' => Below w.heap.size w w' ∧ w'.heap[w1.heap.size]? = some (.cells #[.int .i64 0, .string pth, .string lk, .int .i64 nm, .int .i64 nu, .int .i64 ng, .int .i64 nt, .string us, .string gr, .string ⟨#[]⟩, .string fl, .int .i64 nz] 37 (0, 0)) ∧ (w'.heap[w.heap.size]? = some (.cells zEnt 23 (0, 0)) ∨ w'.heap[w.heap.size]? = some (.cells #[.int .i64 0, .string pth, .string lk, .int .i64 nm, .int .i64 nu, .int .i64 ng, .int .i64 nt, .string us, .string gr, .string ⟨#[]⟩] 23 (0, 0)))) (St := fun x y => y.heap[w.heap.size]? = x.heap[w.heap.size]? ∨ y.heap[w.heap.size]? = some (.cells #[.int .i64 0, .string pth, .string lk, .int .i64 nm, .int .i64 nu, .int .i64 ng, .int .i64 nt, .string us, .string gr, .string ⟨#[]⟩] 23 (0, 0))) (V := fun d v _ => match d with | 13 => v = .pointer (some ⟨w1.heap.size, 0, none⟩) | 14 => v = .agg #[.int .i64 0, .string pth, .string lk, .int .i64 nm, .int .i64 nu, .int .i64 ng, .int .i64 nt, .string us, .string gr, .string ⟨#[]⟩] | 15 => v = .pointer (some ⟨w1.heap.size, 10, none⟩) | 16 => v = .string fl | 17 => v = .pointer (some ⟨w1.heap.size, 11, none⟩) | 18 => v = .int .i64 nz | 19 => v = .nilIface | 20 => v = .int .i64 0 | 3 => v = .string fl | 4 => v = .int .i64 nz | 5 => v = .int .i64 0 | _ => True) (U := fun o w' => o.dst = none → w'.heap[w.heap.size]? = some (.cells #[.int .i64 0, .string pth, .string lk, .int .i64 nm, .int .i64 nu, .int .i64 ng, .int .i64 nt, .string us, .string gr, .string ⟨#[]⟩] 23 (0, 0))) (f := 26) (args := #[.nilIface]) (R := fun v y => v = .int .i64 0 ∧ Below w2.heap.size w2 y) ?_ ((HCo.out w2).mono ?_) ?_
      · (clear hV hI hC; go_simp <;> (first | rfl | simp))
      · rintro e y ⟨rfl, hb⟩; exact ⟨_, rfl, rfl, hb⟩
      · rintro v y ⟨rfl, hb⟩; exact ⟨⟨hC.1.trans (hb.mono hC.1.size), (hb.block _ (obj_lt hC.2.1)).trans hC.2.1, hC.2.2.imp (fun h => (hb.block _ (obj_lt h)).trans h) (fun h => (hb.block _ (obj_lt h)).trans h)⟩, .inl (hb.block _ (Nat.lt_trans zRH (obj_lt hC.2.1))), (by intro d hd; cases hd; rfl), fun h => (by cases h)⟩
    case os8 =>
      intro Q a w2 hC hV hI
      have e2 : a.eval (.tmp 2) = .pointer (some ⟨w.heap.size, 0, none⟩) := (hI 2 (by simp [Op.operands]) (by kernel_rfl)).trans rfl
      have f2 : a.tmps.getD 2 undef = .pointer (some ⟨w.heap.size, 0, none⟩) := e2
      have g2 : a.tmps[2]?.getD undef = .pointer (some ⟨w.heap.size, 0, none⟩) := by rw [← Array.getD_eq_getD_getElem?]; exact e2
      have e14 : a.eval (.tmp 14) = .agg #[.int .i64 0, .string pth, .string lk, .int .i64 nm, .int .i64 nu, .int .i64 ng, .int .i64 nt, .string us, .string gr, .string ⟨#[]⟩] := hV 14 (by simp [Op.operands]) (by kernel_rfl)
      have f14 : a.tmps.getD 14 undef = .agg #[.int .i64 0, .string pth, .string lk, .int .i64 nm, .int .i64 nu, .int .i64 ng, .int .i64 nt, .string us, .string gr, .string ⟨#[]⟩] := e14
      have g14 : a.tmps[14]?.getD undef = .agg #[.int .i64 0, .string pth, .string lk, .int .i64 nm, .int .i64 nu, .int .i64 ng, .int .i64 nt, .string us, .string gr, .string ⟨#[]⟩] := by rw [← Array.getD_eq_getD_getElem?]; exact e14
      have hS : ∀ cs : Array Value, cs.size = 10 → w2.heap[w.heap.size]? = some (.cells cs 23 (0, 0)) → _ := fun cs hc hR => run_storeVar_row (P := Tryz.prog) w2 w.heap.size 23 23 cs #[.int .i64 0, .string pth, .string lk, .int .i64 nm, .int .i64 nu, .int .i64 ng, .int .i64 nt, .string us, .string gr, .string ⟨#[]⟩] hR (by rw [Tryz.sizeEnt]; rfl) hc (by simp [Value.oneCell'])
      have hR2 : (w2.setRow w.heap.size #[.int .i64 0, .string pth, .string lk, .int .i64 nm, .int .i64 nu, .int .i64 ng, .int .i64 nt, .string us, .string gr, .string ⟨#[]⟩]).heap[w.heap.size]? = some (.cells #[.int .i64 0, .string pth, .string lk, .int .i64 nm, .int .i64 nu, .int .i64 ng, .int .i64 nt, .string us, .string gr, .string ⟨#[]⟩] 23 (0, 0)) := hC.2.2.elim (fun h => setRow_heap _ _ _ _ _ _ h) (fun h => setRow_heap _ _ _ _ _ _ h)
      refine opU_store (C := fun w' => Below w.heap.size w w' ∧ w'.heap[w1.heap.size]? = some (.cells #[.int .i64 0, .string pth, .string lk, .int .i64 nm, .int .i64 nu, .int .i64 ng, .int .i64 nt, .string us, .string gr, .string ⟨#[]⟩, .string fl, .int .i64 nz] 37 (0, 0)) ∧ (w'.heap[w.heap.size]? = some (.cells zEnt 23 (0, 0)) ∨ w'.heap[w.heap.size]? = some (.cells #[.int .i64 0, .string pth, .string lk, .int .i64 nm, .int .i64 nu, .int .i64 ng, .int .i64 nt, .string us, .string gr, .string ⟨#[]⟩] 23 (0, 0)))) (St := fun x y => y.heap[w.heap.size]? = x.heap[w.heap.size]? ∨ y.heap[w.heap.size]? = some (.cells #[.int .i64 0, .string pth, .string lk, .int .i64 nm, .int .i64 nu, .int .i64 ng, .int .i64 nt, .string us, .string gr, .string ⟨#[]⟩] 23 (0, 0))) (V := fun d v _ => match d with | 13 => v = .pointer (some ⟨w1.heap.size, 0, none⟩) | 14 => v = .agg #[.int .i64 0, .string pth, .string lk, .int .i64 nm, .int .i64 nu, .int .i64 ng, .int .i64 nt, .string us, .string gr, .string ⟨#[]⟩] | 15 => v = .pointer (some ⟨w1.heap.size, 10, none⟩) | 16 => v = .string fl | 17 => v = .pointer (some ⟨w1.heap.size, 11, none⟩) | 18 => v = .int .i64 nz | 19 => v = .nilIface | 20 => v = .int .i64 0 | 3 => v = .string fl | 4 => v = .int .i64 nz | 5 => v = .int .i64 0 | _ => True) (U := fun o w' => o.dst = none → w'.heap[w.heap.size]? = some (.cells #[.int .i64 0, .string pth, .string lk, .int .i64 nm, .int .i64 nu, .int .i64 ng, .int .i64 nt, .string us, .string gr, .string ⟨#[]⟩] 23 (0, 0))) 23 _ _ rfl rfl ⟨w.heap.size, 0, none⟩ e2 e14 (hC.2.2.elim (fun h => hS _ rfl h) (fun h => hS _ rfl h)) ?_ ?_ ?_
      · exact ⟨hC.1.trans (below_set (Nat.le_refl _) _), by rw [setRow_other _ _ _ _ (by omega)]; exact hC.2.1, Or.inr hR2⟩
      · exact Or.inr hR2
      · intro _; exact hR2
    case o3 =>
      intro Q a w2 hC hV hI
      have e16 : a.eval (.tmp 16) = .string fl := hV 16 (by simp [Op.operands]) (by kernel_rfl)
      have f16 : a.tmps.getD 16 undef = .string fl := e16
      have g16 : a.tmps[16]?.getD undef = .string fl := by rw [← Array.getD_eq_getD_getElem?]; exact e16
      refine opU_val (C := fun w' => Below w.heap.size w w' ∧ w'.heap[w1.heap.size]? = some (.cells #[.int .i64 0, .string pth, .string lk, .int .i64 nm, .int .i64 nu, .int .i64 ng, .int .i64 nt, .string us, .string gr, .string ⟨#[]⟩, .string fl, .int .i64 nz] 37 (0, 0)) ∧ (w'.heap[w.heap.size]? = some (.cells zEnt 23 (0, 0)) ∨ w'.heap[w.heap.size]? = some (.cells #[.int .i64 0, .string pth, .string lk, .int .i64 nm, .int .i64 nu, .int .i64 ng, .int .i64 nt, .string us, .string gr, .string ⟨#[]⟩] 23 (0, 0)))) (St := fun x y => y.heap[w.heap.size]? = x.heap[w.heap.size]? ∨ y.heap[w.heap.size]? = some (.cells #[.int .i64 0, .string pth, .string lk, .int .i64 nm, .int .i64 nu, .int .i64 ng, .int .i64 nt, .string us, .string gr, .string ⟨#[]⟩] 23 (0, 0))) (V := fun d v _ => match d with | 13 => v = .pointer (some ⟨w1.heap.size, 0, none⟩) | 14 => v = .agg #[.int .i64 0, .string pth, .string lk, .int .i64 nm, .int .i64 nu, .int .i64 ng, .int .i64 nt, .string us, .string gr, .string ⟨#[]⟩] | 15 => v = .pointer (some ⟨w1.heap.size, 10, none⟩) | 16 => v = .string fl | 17 => v = .pointer (some ⟨w1.heap.size, 11, none⟩) | 18 => v = .int .i64 nz | 19 => v = .nilIface | 20 => v = .int .i64 0 | 3 => v = .string fl | 4 => v = .int .i64 nz | 5 => v = .int .i64 0 | _ => True) (U := fun o w' => o.dst = none → w'.heap[w.heap.size]? = some (.cells #[.int .i64 0, .string pth, .string lk, .int .i64 nm, .int .i64 nu, .int .i64 ng, .int .i64 nt, .string us, .string gr, .string ⟨#[]⟩] 23 (0, 0))) (w' := w2) (.string fl) ?_ ?_ ?_ ?_ ?_
      · (clear hV hI hC; go_simp <;> (first | rfl | simp))
      · exact hC
      · exact Or.inl rfl
      · intro d hd; cases hd; rfl
      · intro h; cases h
    case o4 =>
      intro Q a w2 hC hV hI
      have e18 : a.eval (.tmp 18) = .int .i64 nz := hV 18 (by simp [Op.operands]) (by kernel_rfl)
      have f18 : a.tmps.getD 18 undef = .int .i64 nz := e18
      have g18 : a.tmps[18]?.getD undef = .int .i64 nz := by rw [← Array.getD_eq_getD_getElem?]; exact e18
      refine opU_val (C := fun w' => Below w.heap.size w w' ∧ w'.heap[w1.heap.size]? = some (.cells #[.int .i64 0, .string pth, .string lk, .int .i64 nm, .int .i64 nu, .int .i64 ng, .int .i64 nt, .string us, .string gr, .string ⟨#[]⟩, .string fl, .int .i64 nz] 37 (0, 0)) ∧ (w'.heap[w.heap.size]? = some (.cells zEnt 23 (0, 0)) ∨ w'.heap[w.heap.size]? = some (.cells #[.int .i64 0, .string pth, .string lk, .int .i64 nm, .int .i64 nu, .int .i64 ng, .int .i64 nt, .string us, .string gr, .string ⟨#[]⟩] 23 (0, 0)))) (St := fun x y => y.heap[w.heap.size]? = x.heap[w.heap.size]? ∨ y.heap[w.heap.size]? = some (.cells #[.int .i64 0, .string pth, .string lk, .int .i64 nm, .int .i64 nu, .int .i64 ng, .int .i64 nt, .string us, .string gr, .string ⟨#[]⟩] 23 (0, 0))) (V := fun d v _ => match d with | 13 => v = .pointer (some ⟨w1.heap.size, 0, none⟩) | 14 => v = .agg #[.int .i64 0, .string pth, .string lk, .int .i64 nm, .int .i64 nu, .int .i64 ng, .int .i64 nt, .string us, .string gr, .string ⟨#[]⟩] | 15 => v = .pointer (some ⟨w1.heap.size, 10, none⟩) | 16 => v = .string fl | 17 => v = .pointer (some ⟨w1.heap.size, 11, none⟩) | 18 => v = .int .i64 nz | 19 => v = .nilIface | 20 => v = .int .i64 0 | 3 => v = .string fl | 4 => v = .int .i64 nz | 5 => v = .int .i64 0 | _ => True) (U := fun o w' => o.dst = none → w'.heap[w.heap.size]? = some (.cells #[.int .i64 0, .string pth, .string lk, .int .i64 nm, .int .i64 nu, .int .i64 ng, .int .i64 nt, .string us, .string gr, .string ⟨#[]⟩] 23 (0, 0))) (w' := w2) (.int .i64 nz) ?_ ?_ ?_ ?_ ?_
      · (clear hV hI hC; go_simp <;> (first | rfl | simp))
      · exact hC
      · exact Or.inl rfl
      · intro d hd; cases hd; rfl
      · intro h; cases h
    case o5 =>
      intro Q a w2 hC hV hI
      have e20 : a.eval (.tmp 20) = .int .i64 0 := hV 20 (by simp [Op.operands]) (by kernel_rfl)
      have f20 : a.tmps.getD 20 undef = .int .i64 0 := e20
      have g20 : a.tmps[20]?.getD undef = .int .i64 0 := by rw [← Array.getD_eq_getD_getElem?]; exact e20
      refine opU_val (C := fun w' => Below w.heap.size w w' ∧ w'.heap[w1.heap.size]? = some (.cells #[.int .i64 0, .string pth, .string lk, .int .i64 nm, .int .i64 nu, .int .i64 ng, .int .i64 nt, .string us, .string gr, .string ⟨#[]⟩, .string fl, .int .i64 nz] 37 (0, 0)) ∧ (w'.heap[w.heap.size]? = some (.cells zEnt 23 (0, 0)) ∨ w'.heap[w.heap.size]? = some (.cells #[.int .i64 0, .string pth, .string lk, .int .i64 nm, .int .i64 nu, .int .i64 ng, .int .i64 nt, .string us, .string gr, .string ⟨#[]⟩] 23 (0, 0)))) (St := fun x y => y.heap[w.heap.size]? = x.heap[w.heap.size]? ∨ y.heap[w.heap.size]? = some (.cells #[.int .i64 0, .string pth, .string lk, .int .i64 nm, .int .i64 nu, .int .i64 ng, .int .i64 nt, .string us, .string gr, .string ⟨#[]⟩] 23 (0, 0))) (V := fun d v _ => match d with | 13 => v = .pointer (some ⟨w1.heap.size, 0, none⟩) | 14 => v = .agg #[.int .i64 0, .string pth, .string lk, .int .i64 nm, .int .i64 nu, .int .i64 ng, .int .i64 nt, .string us, .string gr, .string ⟨#[]⟩] | 15 => v = .pointer (some ⟨w1.heap.size, 10, none⟩) | 16 => v = .string fl | 17 => v = .pointer (some ⟨w1.heap.size, 11, none⟩) | 18 => v = .int .i64 nz | 19 => v = .nilIface | 20 => v = .int .i64 0 | 3 => v = .string fl | 4 => v = .int .i64 nz | 5 => v = .int .i64 0 | _ => True) (U := fun o w' => o.dst = none → w'.heap[w.heap.size]? = some (.cells #[.int .i64 0, .string pth, .string lk, .int .i64 nm, .int .i64 nu, .int .i64 ng, .int .i64 nt, .string us, .string gr, .string ⟨#[]⟩] 23 (0, 0))) (w' := w2) (.int .i64 0) ?_ ?_ ?_ ?_ ?_
      · (clear hV hI hC; go_simp <;> (first | rfl | simp))
      · exact hC
      · exact Or.inl rfl
      · intro d hd; cases hd; rfl
      · intro h; cases h
  case hend =>
    intro f w5 hC hall huall
    simp only [List.forall_mem_cons] at hall
    obtain ⟨h13, h14, h15, h16, h17, h18, h19, h20, _, h3, h4, h5, _⟩ := hall
    simp only [List.forall_mem_cons] at huall
    obtain ⟨_, _, _, _, _, _, _, _, hus, _, _, _, _⟩ := huall
    replace h13 : f 13 = .pointer (some ⟨w1.heap.size, 0, none⟩) := h13 13 rfl
    replace h14 : f 14 = .agg #[.int .i64 0, .string pth, .string lk, .int .i64 nm, .int .i64 nu, .int .i64 ng, .int .i64 nt, .string us, .string gr, .string ⟨#[]⟩] := h14 14 rfl
    replace h15 : f 15 = .pointer (some ⟨w1.heap.size, 10, none⟩) := h15 15 rfl
    replace h16 : f 16 = .string fl := h16 16 rfl
    replace h17 : f 17 = .pointer (some ⟨w1.heap.size, 11, none⟩) := h17 17 rfl
    replace h18 : f 18 = .int .i64 nz := h18 18 rfl
    replace h19 : f 19 = .nilIface := h19 19 rfl
    replace h20 : f 20 = .int .i64 0 := h20 20 rfl
    replace h3 : f 3 = .string fl := h3 3 rfl
    replace h4 : f 4 = .int .i64 nz := h4 4 rfl
    replace h5 : f 5 = .int .i64 0 := h5 5 rfl
    simp only [putAll, Act.put, List.setIfInBounds_toArray, List.set_cons_succ, List.set_cons_zero, h13, h14, h15, h16, h17, h18, h19, h20, h3, h4, h5]
    clear h13 h14 h15 h16 h17 h18 h19 h20 h3 h4 h5
    have R5 := Lib.hid (hus trivial)
    have B5 := Lib.hid hC.1
    clear hC hus
    go_wp2
    refine bodyPost_ret (results_cell4 rfl _ _ w.heap.size _ #[.int .i64 0, .string pth, .string lk, .int .i64 nm, .int .i64 nu, .int .i64 ng, .int .i64 nt, .string us, .string gr, .string ⟨#[]⟩] (0, 0) _ rfl R5.out Tryz.underlying23 rfl (by rw [Tryz.sizeEnt]; rfl)) rfl ?_
    rw [HE.out]
    exact ⟨rfl, B5.out⟩
theorem getHead_impl (s : ByteArray) (w : World) (hs : s.size ≤ 1048576) (hT : Tabs w) (hF : FW w) (hH : Handle w) :
    Calls Tryz.prog 9 #[.string s] w fun e w' => e = .returned (getV s) ∧ Below w.heap.size w w' := by
  by_cases h : hdc s = 0
  · exact getHead_good s w hs h hT hF hH
  · exact getHead_bad s w hs h hT hF hH
end Go.Proofs.YtgpgkgahbkmdiabGreatDoor

/- Contracts of spec.l04Num and spec.l04Kind. -/
namespace Go.Proofs.YtgpgkgahbkmdiabGreatDoor
open Go.ChangeShapes Go.WideShapes Go.ChangeAt Go.RowKit

theorem fnum_last {f : ByteArray} {m : Nat} (hm : f.size = m + 1) (q : m < f.size) : (decide (f.data.toList.drop (f.size - 1) = [0])) = decide (f[m] = 0) := by
  have hl : m < f.data.toList.length := by simpa using q
  rw [hm, Nat.add_sub_cancel, List.drop_eq_getElem_cons hl, List.drop_eq_nil_of_le (by simp; omega)]
  simp
  rfl
set_option maxHeartbeats 1600000 in
theorem num_spec (f : ByteArray) (w : World) (h1 : 1 ≤ f.size) (h2 : f.size ≤ 4194304) :
    Calls Tryz.prog 48 #[.string f] w fun e w' => e = .returned (.tuple #[.int .i64 (fnumv f), .bool (fnumOk f)]) ∧ Below w.heap.size w w' := by
  obtain ⟨m, hm⟩ : ∃ m, f.size = m + 1 := ⟨f.size - 1, by omega⟩
  have q : m < f.size := by omega
  have HO : Hid (fnumOk f = ((getOctv (f.extract 0 m).data.toList).2 && decide (f[m] = 0))) := Lib.hid (by rw [fnumOk, fnum_last hm q, ext0, hm, Nat.add_sub_cancel])
  have HN : Hid (fnumv f = (getOctv (f.extract 0 m).data.toList).1) := Lib.hid (by rw [fnumv, ext0, hm, Nat.add_sub_cancel])
  have H := Lib.hid (fun w => getOct_spec (f.extract 0 m) w (by rw [ByteArray.size_extract]; omega))
  generalize fnumOk f = ov at HO
  generalize fnumv f = nv at HN
  generalize getOctv (f.extract 0 m).data.toList = pr at *
  obtain ⟨n, o⟩ := pr
  simp only at HO HN H
  have c0 : (f.size : Int) - 1 = (m : Int) := by omega
  have c1 : (0 : Int) ≤ (m : Int) := by omega
  have c2 : (m : Int) ≤ (f.size : Int) := by omega
  have c3 : (m : Int) < (f.size : Int) := by omega
  have HM := Lib.hid hm
  clear hm
  cases o with
  | false =>
    go_enter Tryz.func48, Tryz.ntmps48
    go_wp2_with fail
    refine (H.out _).mono ?_
    rintro e w1 ⟨rfl, rfl⟩
    go_wp2_with fail
    go_region
    go_wp2
    go_ret2
    exact ⟨by rw [HO.out, HN.out]; rfl, ⟨rfl, rfl, rfl, Nat.le_refl _, fun _ _ => rfl⟩⟩
  | true =>
    by_cases hc : f[m] = 0
    · have hc' : (((f[m].toNat : Nat) : Int) == 0) = true := by rw [hc]; rfl
      have HO2 : Hid (ov = true) := Lib.hid (by rw [HO.out, hc]; rfl)
      clear hc HO
      go_enter Tryz.func48, Tryz.ntmps48
      go_wp2_with fail
      refine (H.out _).mono ?_
      rintro e w1 ⟨rfl, rfl⟩
      go_wp2_with fail
      go_region
      go_wp2
      go_ret2
      exact ⟨by rw [HO2.out, HN.out]; rfl, ⟨rfl, rfl, rfl, Nat.le_refl _, fun _ _ => rfl⟩⟩
    · have hc' : (((f[m].toNat : Nat) : Int) == 0) = false := byte_eq0 hc
      have HO2 : Hid (ov = false) := Lib.hid (by rw [HO.out]; simp [hc])
      clear hc HO
      go_enter Tryz.func48, Tryz.ntmps48
      go_wp2_with fail
      refine (H.out _).mono ?_
      rintro e w1 ⟨rfl, rfl⟩
      go_wp2_with fail
      go_region
      go_wp2
      go_ret2
      exact ⟨by rw [HO2.out, HN.out]; rfl, ⟨rfl, rfl, rfl, Nat.le_refl _, fun _ _ => rfl⟩⟩
set_option maxRecDepth 8000 in
theorem kindS_any (p l : ByteArray) (m u g t : Int) (us gr b fl : ByteArray) (w : World) :
    Calls Tryz.prog 24 #[.agg #[.int .i64 0, .string p, .string l, .int .i64 m, .int .i64 u, .int .i64 g, .int .i64 t, .string us, .string gr, .string b], .string fl] w fun e w' => e = .returned (.agg #[.int .i64 (if 0 ≤ kindv fl then kindv fl else 0), .string p, .string l, .int .i64 m, .int .i64 u, .int .i64 g, .int .i64 t, .string us, .string gr, .string b]) ∧ Below w.heap.size w w' := by
  have H := Lib.hid (fun w => kind_spec fl w)
  generalize kindv fl = kv at *
  have OB := two_obj w (.cells #[.int .i64 0, .string p, .string l, .int .i64 m, .int .i64 u, .int .i64 g, .int .i64 t, .string us, .string gr, .string b] 23) (.cells zEnt 23)
  have OB' := Lib.hid OB
  have BN := Lib.hid (And.intro OB.2.2.1 (show w.heap.size + 2 ≤ ((w.alloc (.cells #[.int .i64 0, .string p, .string l, .int .i64 m, .int .i64 u, .int .i64 g, .int .i64 t, .string us, .string gr, .string b] 23)).alloc (.cells zEnt 23)).heap.size by simp))
  clear OB
  by_cases hk : 0 ≤ kv
  · rw [if_pos hk]
    go_enter Tryz.func24, Tryz.ntmps24
    go_wp2_with fail
    refine (H.out _).mono ?_
    rintro e w1 ⟨rfl, hb⟩
    have E1 := (hb.block _ (obj_lt OB'.out.1)).trans OB'.out.1
    have R1 := (hb.block _ (obj_lt OB'.out.2.1)).trans OB'.out.2.1
    have B1 := Lib.hid (BN.out.1.trans (hb.mono BN.out.1.size))
    have cE : w1.cell? ⟨w.heap.size, 0, none⟩ = some (.int .i64 0) := by rw [cell_of_row _ _ _ _ _ _ E1]; rfl
    have fE : w1.frozen? ⟨w.heap.size, 0, none⟩ = false := obj_frozen E1
    have E2 : (w1.setCell ⟨w.heap.size, 0, none⟩ (.int .i64 kv)).heap[w.heap.size]? = some (.cells #[.int .i64 kv, .string p, .string l, .int .i64 m, .int .i64 u, .int .i64 g, .int .i64 t, .string us, .string gr, .string b] 23 (0, 0)) := Go.heap_setCell_same _ _ _ _ _ _ E1
    have R2 : (w1.setCell ⟨w.heap.size, 0, none⟩ (.int .i64 kv)).heap[w.heap.size + 1]? = some (.cells zEnt 23 (0, 0)) := by rw [Below.heap_setCell _ _ _ _ (by simp)]; exact R1
    have HLd := Lib.hid (run_loadVar_row (P := Tryz.prog) _ _ 23 23 _ (0, 0) _ E2 Tryz.underlying23 rfl (by rw [Tryz.sizeEnt]; rfl))
    have HSt := Lib.hid (run_storeVar_row (P := Tryz.prog) _ (w.heap.size + 1) 23 23 zEnt #[.int .i64 kv, .string p, .string l, .int .i64 m, .int .i64 u, .int .i64 g, .int .i64 t, .string us, .string gr, .string b] R2 (by rw [Tryz.sizeEnt]; rfl) rfl (by simp [Value.oneCell']))
    have HR2 := Lib.hid R2
    have B2 := Lib.hid ((B1.out.setCell (p := ⟨w.heap.size, 0, none⟩) (Nat.le_refl _) (.int .i64 kv)))
    clear hb E1 R1 E2 R2 BN OB'
    go_wp2_with (first | ((with_reducible refine wpList_load_eq rfl 23 _ rfl ⟨w.heap.size, 0, none⟩ ?_ HLd.out ?_); rfl) | ((with_reducible refine wpList_store_eq rfl 23 _ _ rfl ⟨w.heap.size + 1, 0, none⟩ ?_ ?_ HSt.out ?_); rfl; rfl))
    exact bodyPost_ret (results_cell_row rfl _ _ (w.heap.size + 1) _ #[.int .i64 kv, .string p, .string l, .int .i64 m, .int .i64 u, .int .i64 g, .int .i64 t, .string us, .string gr, .string b] (0, 0) _ rfl (setRow_heap _ _ _ _ _ _ HR2.out) Tryz.underlying23 rfl (by rw [Tryz.sizeEnt]; rfl)) rfl ⟨rfl, B2.out.trans (below_set (Nat.le_succ _) _)⟩
  · rw [if_neg hk]
    go_enter Tryz.func24, Tryz.ntmps24
    go_wp2_with fail
    refine (H.out _).mono ?_
    rintro e w1 ⟨rfl, hb⟩
    have E1 := (hb.block _ (obj_lt OB'.out.1)).trans OB'.out.1
    have R1 := (hb.block _ (obj_lt OB'.out.2.1)).trans OB'.out.2.1
    have B1 := Lib.hid (BN.out.1.trans (hb.mono BN.out.1.size))
    have HLd := Lib.hid (run_loadVar_row (P := Tryz.prog) _ _ 23 23 _ (0, 0) _ E1 Tryz.underlying23 rfl (by rw [Tryz.sizeEnt]; rfl))
    have HSt := Lib.hid (run_storeVar_row (P := Tryz.prog) _ (w.heap.size + 1) 23 23 zEnt #[.int .i64 0, .string p, .string l, .int .i64 m, .int .i64 u, .int .i64 g, .int .i64 t, .string us, .string gr, .string b] R1 (by rw [Tryz.sizeEnt]; rfl) rfl (by simp [Value.oneCell']))
    have HR2 := Lib.hid R1
    clear hb E1 R1 BN OB'
    go_wp2_with (first | ((with_reducible refine wpList_load_eq rfl 23 _ rfl ⟨w.heap.size, 0, none⟩ ?_ HLd.out ?_); rfl) | ((with_reducible refine wpList_store_eq rfl 23 _ _ rfl ⟨w.heap.size + 1, 0, none⟩ ?_ ?_ HSt.out ?_); rfl; rfl))
    exact bodyPost_ret (results_cell_row rfl _ _ (w.heap.size + 1) _ #[.int .i64 0, .string p, .string l, .int .i64 m, .int .i64 u, .int .i64 g, .int .i64 t, .string us, .string gr, .string b] (0, 0) _ rfl (setRow_heap _ _ _ _ _ _ HR2.out) Tryz.underlying23 rfl (by rw [Tryz.sizeEnt]; rfl)) rfl ⟨rfl, B1.out.trans (below_set (Nat.le_succ _) _)⟩
end Go.Proofs.YtgpgkgahbkmdiabGreatDoor

/- Contracts of spec.GetBig, impl.GetBig and the law laws.FnExactGetBig, for every string. -/
namespace Go.Proofs.YtgpgkgahbkmdiabGreatDoor
open Go.ChangeShapes Go.WideShapes Go.ChangeAt Go.RowKit

theorem wraps_i64 (n : Int) (h₀ : 0 ≤ n) (h₁ : n < 2 ^ 63) : IntKind.i64.wrap n = n := by rw [IntKind.wrap_i64]; omega
theorem or_i64 (x y : Int) (hx₀ : 0 ≤ x) (hx : x % 256 = 0) (hx₁ : x < 9223372036854775808) (hy₀ : 0 ≤ y) (hy : y < 256) : bits .or .i64 x y = x + y :=
  bits_join .i64 63 (by decide) wraps_i64 8 x y hx₀ hx hx₁ hy₀ hy (by omega)

def bigs : Int → List UInt8 → Int
  | n, [] => n
  | n, c :: l => if 9007199254740991 < n * 256 + (c.toNat : Int) then -1 else bigs (n * 256 + (c.toNat : Int)) l
def BigFrom (s : ByteArray) (n : Int) (k : Nat) : Prop := bigs 0 (s.data.toList.drop 1) = bigs n (s.data.toList.drop k)
theorem BigFrom.start (s : ByteArray) : BigFrom s 0 1 := rfl
theorem BigFrom.more {n : Int} {s : ByteArray} {k : Nat} (h : BigFrom s n k) (hk : k < s.size) (hn : n * 256 + (s[k].toNat : Int) ≤ 9007199254740991) : BigFrom s (n * 256 + (s[k].toNat : Int)) (k + 1) := by
  unfold BigFrom at *
  rw [h, drop_atN s k hk, bigs, if_neg (by omega)]
theorem BigFrom.stop {n : Int} {s : ByteArray} {k : Nat} (h : BigFrom s n k) (hk : k < s.size) (hn : 9007199254740991 < n * 256 + (s[k].toNat : Int)) : bigs 0 (s.data.toList.drop 1) = -1 := by
  unfold BigFrom at h
  rw [h, drop_atN s k hk, bigs, if_pos hn]
theorem BigFrom.done {n : Int} {s : ByteArray} {k : Nat} (h : BigFrom s n k) (hk : s.size ≤ k) : bigs 0 (s.data.toList.drop 1) = n := by
  unfold BigFrom at h
  rw [h, drop_end s k hk, bigs]

def bigv (s : ByteArray) : Int × Bool :=
  if 2 ≤ s.size ∧ s.size ≤ 20 ∧ s.data.toList.head? = some 128 ∧ 0 ≤ bigs 0 (s.data.toList.drop 1) then (bigs 0 (s.data.toList.drop 1), true) else (0, false)
theorem bigv_no {s : ByteArray} (h : ¬ (2 ≤ s.size ∧ s.size ≤ 20)) : bigv s = (0, false) := by rw [bigv, if_neg (fun k => h ⟨k.1, k.2.1⟩)]
theorem head_at (s : ByteArray) (h : 0 < s.size) : s.data.toList.head? = some s[0] := by
  have := drop_atN s 0 h
  rw [List.drop_zero] at this
  rw [this]; rfl
theorem bigv_head {s : ByteArray} (h : 0 < s.size) (hc : ¬ s[0] = 128) : bigv s = (0, false) := by
  rw [bigv, if_neg]
  intro k
  have := k.2.2.1
  rw [head_at s h] at this
  exact hc (by simpa using this)
theorem bigv_bad {s : ByteArray} (h : bigs 0 (s.data.toList.drop 1) = -1) : bigv s = (0, false) := by
  rw [bigv, if_neg]
  intro k
  have := k.2.2.2
  omega
theorem bigv_ok {s : ByteArray} {n : Int} (h2 : 2 ≤ s.size) (h20 : s.size ≤ 20) (hc : s[0] = 128) (hn : 0 ≤ n) (h : bigs 0 (s.data.toList.drop 1) = n) : bigv s = (n, true) := by
  rw [bigv, h, if_pos ⟨h2, h20, by rw [head_at s (by omega), hc], hn⟩]
theorem ret_tib {a c : Int} {b d : Bool} {r : Int × Bool} (h : r = (a, b)) (h1 : c = a) (h2 : d = b) : Ending.returned (.tuple #[.int .i64 c, .bool d]) = .returned (.tuple #[.int .i64 r.1, .bool r.2]) := by
  subst h h1 h2; rfl
theorem byte_ne {c : UInt8} {n : Nat} (h : ¬ c = UInt8.ofNat n) : (((c.toNat : Nat) : Int) != (n : Int)) = true := by
  have : c.toNat ≠ n := fun e => h (by rw [← e]; simp)
  simp; omega
theorem byte_is {c : UInt8} {n : Nat} (hn : n < 256) (h : c = UInt8.ofNat n) : (((c.toNat : Nat) : Int) != (n : Int)) = false := by
  subst h
  have : (UInt8.ofNat n).toNat = n := by simp; omega
  rw [this]; simp

theorem getBig_spec (s : ByteArray) (w : World) (hs : s.size ≤ 9223372036854775807) :
    Calls Tryz.prog 117 #[.string s] w fun e w' => e = .returned (.tuple #[.int .i64 (bigv s).1, .bool (bigv s).2]) ∧ w = w' := by
  by_cases h0 : (2 : Int) ≤ (s.size : Int) ∧ (s.size : Int) ≤ 20
  · have i1 := inB_t h0
    have hp : 0 < s.size := by omega
    by_cases hc : s[0] = 128
    · have hb : (((s[0].toNat : Nat) : Int) != 128) = false := byte_is (n := 128) (by decide) hc
      have HC := Lib.hid hc
      clear hc
      go_enter Tryz.func117, Tryz.ntmps117
      go_wp2_with (go_at_call 51; refine (in_any _ _ _ _).mono ?_; rintro e w' ⟨rfl, rfl⟩)
      go_loop [4, 5] (fun n u => ∃ (m : Int) (k : Nat), k ≤ s.size ∧ 0 ≤ m ∧ m ≤ 9007199254740991 ∧ n = .int .i64 m ∧ u = .int .i64 k ∧ BigFrom s m k) (fun _ u => s.size - (intOf u).toNat)
      case atStart => exact ⟨0, 1, by omega, by omega, by omega, rfl, rfl, BigFrom.start s⟩
      case round =>
        obtain ⟨m, k, hk, hm0, hm1, rfl, rfl, hlf⟩ := hrel
        have HL := Lib.hid hlf
        clear hlf
        by_cases hlt : k < s.size
        · have hcb := UInt8.toNat_lt s[k]
          go_wp2
          all_goals first
            | (go_round
               case rel => exact ⟨_, k + 1, by omega, by omega, by omega, rfl, by go_num, HL.out.more hlt (by omega)⟩
               case measure => simp [intOf]; omega)
            | (go_ret2
               exact ⟨ret_tib (bigv_bad (HL.out.stop hlt (by omega))) rfl rfl, rfl⟩)
        · go_wp2
          go_ret2
          exact ⟨ret_tib (bigv_ok (by omega) (by omega) HC.out hm0 (HL.out.done (by omega))) rfl rfl, rfl⟩
    · have hb : (((s[0].toNat : Nat) : Int) != 128) = true := byte_ne (n := 128) hc
      have HC := Lib.hid hc
      clear hc
      go_enter Tryz.func117, Tryz.ntmps117
      go_wp2_with (go_at_call 51; refine (in_any _ _ _ _).mono ?_; rintro e w' ⟨rfl, rfl⟩)
      go_ret2
      exact ⟨ret_tib (bigv_head hp HC.out) rfl rfl, rfl⟩
  · have i1 := inB_f h0
    go_enter Tryz.func117, Tryz.ntmps117
    go_wp2_with (go_at_call 51; refine (in_any _ _ _ _).mono ?_; rintro e w' ⟨rfl, rfl⟩)
    go_ret2
    exact ⟨ret_tib (bigv_no (by omega)) rfl rfl, rfl⟩

theorem getBig_impl (s : ByteArray) (w : World) (hs : s.size ≤ 9223372036854775807) :
    Calls Tryz.prog 121 #[.string s] w fun e w' => e = .returned (.tuple #[.int .i64 (bigv s).1, .bool (bigv s).2]) ∧ w = w' := by
  by_cases h2 : s.size < 2
  · go_enter Tryz.func121, Tryz.ntmps121
    go_wp2
    go_ret2
    exact ⟨ret_tib (bigv_no (by omega)) rfl rfl, rfl⟩
  · by_cases h20 : 20 < s.size
    · go_enter Tryz.func121, Tryz.ntmps121
      go_wp2
      go_ret2
      exact ⟨ret_tib (bigv_no (by omega)) rfl rfl, rfl⟩
    · have hp : 0 < s.size := by omega
      by_cases hc : s[0] = 128
      · have hb : (((s[0].toNat : Nat) : Int) != 128) = false := byte_is (n := 128) (by decide) hc
        have HC := Lib.hid hc
        clear hc
        go_enter Tryz.func121, Tryz.ntmps121
        go_wp2
        go_loop [4, 5] (fun n u => ∃ (m : Int) (k : Nat), k ≤ s.size ∧ 0 ≤ m ∧ m ≤ 9007199254740991 ∧ n = .int .i64 m ∧ u = .int .i64 k ∧ BigFrom s m k) (fun _ u => s.size - (intOf u).toNat)
        case atStart => exact ⟨0, 1, by omega, by omega, by omega, rfl, rfl, BigFrom.start s⟩
        case round =>
          obtain ⟨m, k, hk, hm0, hm1, rfl, rfl, hlf⟩ := hrel
          have HL := Lib.hid hlf
          clear hlf
          by_cases hlt : k < s.size
          · have hcb := UInt8.toNat_lt s[k]
            have ho : bits BinOp.or IntKind.i64 (m * 256) (s[k].toNat : Int) = m * 256 + (s[k].toNat : Int) := or_i64 _ _ (by omega) (by omega) (by omega) (by omega) (by omega)
            go_wp2
            all_goals first
              | (go_round
                 case rel => exact ⟨_, k + 1, by omega, by omega, by omega, rfl, by go_num, HL.out.more hlt (by omega)⟩
                 case measure => simp [intOf]; omega)
              | (go_ret2
                 exact ⟨ret_tib (bigv_bad (HL.out.stop hlt (by omega))) rfl rfl, rfl⟩)
          · go_wp2
            go_ret2
            exact ⟨ret_tib (bigv_ok (by omega) (by omega) HC.out hm0 (HL.out.done (by omega))) rfl rfl, rfl⟩
      · have hb : (((s[0].toNat : Nat) : Int) != 128) = true := byte_ne (n := 128) hc
        have HC := Lib.hid hc
        clear hc
        go_enter Tryz.func121, Tryz.ntmps121
        go_wp2
        go_ret2
        exact ⟨ret_tib (bigv_head hp HC.out) rfl rfl, rfl⟩

end Go.Proofs.YtgpgkgahbkmdiabGreatDoor

/- impl.readHeadBy, as impl.readLongHead calls it. -/
namespace Go.Proofs.YtgpgkgahbkmdiabGreatDoor
open Go.ChangeShapes Go.WideShapes Go.ChangeAt Go.RowKit

set_option maxRecDepth 8000 in
theorem readBy_shortL (s : ByteArray) (ok : Nat → Bool) (val : Nat → Int) (hd : ByteArray) (w : World) (h5 : (s.size : Int) < 512) :
    Calls Tryz.prog 55 #[.string s, .func (.func 69) #[] #[], .func (.func 70) #[] #[]] w fun e w' => e = .returned (readVG s ok val hd) ∧ Below w.heap.size w w' := by
  have HSt0 := Lib.hid (run_storeVar_new (P := Tryz.prog) w 37 zHead zHead (by rw [Tryz.sizeHd]; rfl) rfl (by simp [zHead, Value.oneCell']))
  have B0 := Lib.hid ((Below.refl w.heap.size w).alloc (Nat.le_refl _) (.cells zHead 37))
  have R0 : Hid ((w.alloc (.cells zHead 37)).heap[w.heap.size]? = some (.cells zHead 37 (0, 0))) := Lib.hid (heap_alloc_last _ _)
  have HE : Hid (readVG s ok val hd = badHd 1) := Lib.hid (by rw [readVG, if_pos (by omega)])
  go_enter Tryz.func55, Tryz.ntmps55
  go_wp2_with ((with_reducible refine wpList_store_eq rfl 37 _ _ rfl ⟨w.heap.size, 0, none⟩ ?_ ?_ HSt0.out ?_); rfl; rfl)
  refine bodyPost_ret (results_cell2 rfl _ _ w.heap.size _ zHead (0, 0) _ rfl R0.out Tryz.underlying37 rfl (by rw [Tryz.sizeHd]; rfl)) rfl ?_
  rw [HE.out]
  exact ⟨rfl, B0.out⟩
set_option maxHeartbeats 6400000 in
set_option maxRecDepth 8000 in
theorem readBy_longL (s : ByteArray) (ok : Nat → Bool) (val : Nat → Int) (hd : ByteArray) (w : World) (hHd : ∀ g w, Tabs w → FW w → Blk w g (lOf s) → Calls Tryz.prog 107 #[.pointer (some ⟨g, 0, none⟩), .func (.func 69) #[] #[]] w fun e w' => e = .returned (headVG (lOf s) ok val) ∧ Below w.heap.size w w') (hWr : headOkG ok val = true → ∀ w, Tabs w → FW w → Calls Tryz.prog 70 #[.agg (okCellsG (lOf s) val)] w fun e w' => e = .returned (.string hd) ∧ Below w.heap.size w w') (hs : s.size ≤ 1048576) (h512 : 512 ≤ s.size) (hT : Tabs w) (hF : FW w) :
    Calls Tryz.prog 55 #[.string s, .func (.func 69) #[] #[], .func (.func 70) #[] #[]] w fun e w' => e = .returned (readVG s ok val hd) ∧ Below w.heap.size w w' := by
  have B0 := Lib.hid ((Below.refl w.heap.size w).alloc (Nat.le_refl _) (.cells zHead 37))
  have R0 : Hid ((w.alloc (.cells zHead 37)).heap[w.heap.size]? = some (.cells zHead 37 (0, 0))) := Lib.hid (heap_alloc_last _ _)
  have h5 : ¬ (s.size : Int) < 512 := by omega
  have hl : (lOf s).length = 512 := by simp [lOf]; omega
  have HE : Hid (readVG s ok val hd = if sumOkv s = false then badHd 2 else if headOkG ok val = false then badHd 3 else if hd = ⟨(lOf s).toArray⟩ then .tuple #[.agg (okCellsG (lOf s) val), .nilIface] else badHd 4) := Lib.hid (by rw [readVG, if_neg (by omega)])
  have H1 := Lib.hid (fun w => blockOf_any s w h512)
  rw [show s.data.toList.take 512 = lOf s from rfl] at H1
  have hz := fun w => zero_blk w
  have HSb := Lib.hid (fun w => run_storeVar_new (P := Tryz.prog) w 119 (Lib.byteCells zeros512).toArray (Lib.byteCells (lOf s)).toArray (by rw [Tryz.sizeBlk, List.size_toArray, Lib.byteCells_length, hl]) (by rw [List.size_toArray, List.size_toArray, Lib.byteCells_length, Lib.byteCells_length, hl]; exact List.length_replicate) (bc_one _))
  have HNb := Lib.hid (fun w => Blk.new w (lOf s) hl)
  have HF6 := Lib.hid (fun g w h => field_any g 6 8 w (by omega) rfl h)
  rw [show offs 6 = 148 from rfl] at HF6
  have HSum := Lib.hid (fun w hT hF => sumText_any s w hs hT hF)
  have HHd := Lib.hid hHd
  have HWr := Lib.hid hWr
  clear hHd hWr
  have HQ : Hid (sumOkv s = decide (fW (lOf s) 6 = (putOctv (headSumv s) 6).1 ++ ⟨#[0, 32]⟩)) := Lib.hid (by rw [sumOkv, fW_ext s 6 8 (by omega) rfl]; rfl)
  have HCV : Hid (∀ g w, Blk w g (lOf s) → (convert 97 9 (.slice (some ⟨g, 148, none⟩) 8 8)).run Tryz.prog w = .ok (.string (fW (lOf s) 6)) w) := Lib.hid (fun g w h => h.convAt 148 8 (by omega))
  generalize (Lib.byteCells zeros512).toArray = Zb at *
  have HT := Lib.hid hT
  have HF := Lib.hid hF
  clear hT hF
  generalize fW (lOf s) 6 = f6 at *
  generalize (putOctv (headSumv s) 6).1 ++ (⟨#[0, 32]⟩ : ByteArray) = st at *
  go_enter Tryz.func55, Tryz.ntmps55
  go_wp2_with fail
  refine (H1.out _).mono ?_
  rintro e w1 ⟨rfl, hb1⟩
  have RO1 := Lib.hid ((hb1.block w.heap.size (by simp)).trans R0.out)
  have B1 := Lib.hid (B0.out.trans (hb1.mono (by simp)))
  clear hb1 R0 B0 H1
  go_wp2_with ((with_reducible refine wpList_store_eq rfl 119 _ _ rfl ⟨w1.heap.size, 0, none⟩ ?_ ?_ (HSb.out w1) ?_); rfl; rfl)
  have K0 := HNb.out w1
  have BX := (Below.refl w1.heap.size w1).alloc (Nat.le_refl _) (.cells (Lib.byteCells (lOf s)).toArray 119)
  have z4 : w1.heap.size < (w1.alloc (.cells (Lib.byteCells (lOf s)).toArray 119)).heap.size := by simp
  generalize w1.alloc (.cells (Lib.byteCells (lOf s)).toArray 119) = w4 at *
  have K4 := Lib.hid K0
  have RO4 := Lib.hid ((BX.block _ (obj_lt RO1.out)).trans RO1.out)
  have B4 := Lib.hid (B1.out.trans (BX.mono B1.out.size))
  have zR : w.heap.size < w1.heap.size := obj_lt RO1.out
  clear K0 BX RO1 B1 HNb HSb hz
  have bt4 : ∀ w', Below w4.heap.size w4 w' → Below w.heap.size w w' := fun w' hb => B4.out.trans (hb.mono B4.out.size)
  have BT4 := Lib.hid bt4
  clear bt4
  by_cases hq : f6 = st
  · have q := ba_eq hq
    have HE2 : Hid (readVG s ok val hd = if headOkG ok val = false then badHd 3 else if hd = ⟨(lOf s).toArray⟩ then .tuple #[.agg (okCellsG (lOf s) val), .nilIface] else badHd 4) := Lib.hid (by rw [HE.out, HQ.out, if_neg (by simp [hq])])
    clear HE HQ hq
    refine wp_region_inv (by kernel_rfl) (fun w' => Below w4.heap.size w4 w') (fun x y => Below x.heap.size x y) (fun d v _ => match d with | 19 => v = .slice (some ⟨w1.heap.size, 148, none⟩) 8 8 | 20 => v = .string f6 | 21 => v = .string s | 22 => v = .string st | 23 => v = .bool false | _ => True) (by kernel_rfl) ((Below.refl _ _).drew) (fun _ _ _ _ _ _ h => h) ?hops ?hend
    case hops =>
      simp only [List.forall_mem_cons]
      refine ⟨?o19, ?o20, ?o21, ?o22, ?o23, fun _ h => by cases h⟩
      case o19 =>
        intro Q a w2 hC hV hI
        have e8 : a.eval (.tmp 8) = .pointer (some ⟨w1.heap.size, 0, none⟩) := (hI 8 (by simp [Op.operands, Call.operands]) (by kernel_rfl)).trans rfl
        have f8 : a.tmps.getD 8 undef = .pointer (some ⟨w1.heap.size, 0, none⟩) := e8
        have g8 : a.tmps[8]?.getD undef = .pointer (some ⟨w1.heap.size, 0, none⟩) := by rw [← Array.getD_eq_getD_getElem?]; exact e8
        refine op_call (f := 105) (args := #[.pointer (some ⟨w1.heap.size, 0, none⟩), .int .i64 6]) (R := fun v y => v = .slice (some ⟨w1.heap.size, 148, none⟩) 8 8 ∧ w2 = y) ?_ ((HF6.out w1.heap.size w2 (HF.out.below (BT4.out _ hC))).mono ?_) ?_
        · (clear hV hI hC; go_simp <;> (first | rfl | simp))
        · rintro e y ⟨rfl, rfl⟩; exact ⟨_, rfl, rfl, rfl⟩
        · rintro v y ⟨rfl, rfl⟩; exact ⟨hC, Below.refl _ _, by intro d hd; cases hd; rfl⟩
      case o20 =>
        intro Q a w2 hC hV hI
        have e19 : a.eval (.tmp 19) = .slice (some ⟨w1.heap.size, 148, none⟩) 8 8 := hV 19 (by simp [Op.operands]) (by kernel_rfl)
        have f19 : a.tmps.getD 19 undef = .slice (some ⟨w1.heap.size, 148, none⟩) 8 8 := e19
        have g19 : a.tmps[19]?.getD undef = .slice (some ⟨w1.heap.size, 148, none⟩) 8 8 := by rw [← Array.getD_eq_getD_getElem?]; exact e19
        have q9 := HCV.out _ w2 (K4.out.below hC z4)
        refine op_val (.string f6) ?_ hC (Below.refl _ _) (by intro d hd; cases hd; rfl)
        (clear hV hI hC; go_simp <;> (first | rfl | simp))
      case o21 =>
        intro Q a w2 hC hV hI
        have e0 : a.eval (.tmp 0) = .string s := (hI 0 (by simp [Op.operands]) (by kernel_rfl)).trans rfl
        have f0 : a.tmps.getD 0 undef = .string s := e0
        have g0 : a.tmps[0]?.getD undef = .string s := by rw [← Array.getD_eq_getD_getElem?]; exact e0
        refine op_val (.string s) ?_ hC (Below.refl _ _) (by intro d hd; cases hd; rfl)
        (clear hV hI hC; go_simp <;> (first | rfl | simp))
      case o22 =>
        intro Q a w2 hC hV hI
        have e21 : a.eval (.tmp 21) = .string s := hV 21 (by simp [Op.operands, Call.operands]) (by kernel_rfl)
        have f21 : a.tmps.getD 21 undef = .string s := e21
        have g21 : a.tmps[21]?.getD undef = .string s := by rw [← Array.getD_eq_getD_getElem?]; exact e21
        refine op_call (f := 106) (args := #[.string s]) (R := fun v y => v = .string st ∧ Below w2.heap.size w2 y) ?_ ((HSum.out w2 (HT.out.below (BT4.out _ hC)) (HF.out.below (BT4.out _ hC))).mono ?_) ?_
        · (clear hV hI hC; go_simp <;> (first | rfl | simp))
        · rintro e y ⟨rfl, hb⟩; exact ⟨_, rfl, rfl, hb⟩
        · rintro v y ⟨rfl, hb⟩; exact ⟨hC.trans (hb.mono hC.size), hb, by intro d hd; cases hd; rfl⟩
      case o23 =>
        intro Q a w2 hC hV hI
        have e20 : a.eval (.tmp 20) = .string f6 := hV 20 (by simp [Op.operands]) (by kernel_rfl)
        have f20 : a.tmps.getD 20 undef = .string f6 := e20
        have g20 : a.tmps[20]?.getD undef = .string f6 := by rw [← Array.getD_eq_getD_getElem?]; exact e20
        have e22 : a.eval (.tmp 22) = .string st := hV 22 (by simp [Op.operands]) (by kernel_rfl)
        have f22 : a.tmps.getD 22 undef = .string st := e22
        have g22 : a.tmps[22]?.getD undef = .string st := by rw [← Array.getD_eq_getD_getElem?]; exact e22
        refine op_val (.bool false) ?_ hC (Below.refl _ _) (by intro d hd; cases hd; rfl)
        (clear hV hI hC; go_simp <;> (first | rfl | simp))
    case hend =>
      intro f w5 hC hall
      simp only [List.forall_mem_cons] at hall
      obtain ⟨h19, h20, h21, h22, h23, _⟩ := hall
      replace h19 : f 19 = .slice (some ⟨w1.heap.size, 148, none⟩) 8 8 := h19 19 rfl
      replace h20 : f 20 = .string f6 := h20 20 rfl
      replace h21 : f 21 = .string s := h21 21 rfl
      replace h22 : f 22 = .string st := h22 22 rfl
      replace h23 : f 23 = .bool false := h23 23 rfl
      simp only [putAll, Act.put, List.setIfInBounds_toArray, List.set_cons_succ, List.set_cons_zero, h19, h20, h21, h22, h23]
      clear h19 h20 h21 h22 h23
      have RO5 := Lib.hid ((hC.block _ (Nat.lt_trans zR z4)).trans RO4.out)
      have B5 := Lib.hid (BT4.out _ hC)
      have K5 := Lib.hid (K4.out.below hC z4)
      clear hC K4 RO4 B4 BT4 q
      go_wp2_with fail
      refine (HHd.out w1.heap.size _ (HT.out.below B5.out) (HF.out.below B5.out) K5.out).mono ?_
      rintro e w6 ⟨rfl, hb6⟩
      have RO6 := Lib.hid ((hb6.block _ (obj_lt RO5.out)).trans RO5.out)
      have B6 := Lib.hid (B5.out.trans (hb6.mono B5.out.size))
      have K6 := Lib.hid (K5.out.below hb6 K5.out.lt)
      clear hb6 RO5 B5 K5 HHd
      cases hh : headOkG ok val with
      | false =>
        have HE3 : Hid (readVG s ok val hd = badHd 3) := Lib.hid (by rw [HE2.out, if_pos hh])
        rw [head_badG hh]
        have HSn := Lib.hid (run_storeVar_new (P := Tryz.prog) w6 37 zHead zHead (by rw [Tryz.sizeHd]; rfl) rfl (by simp [zHead, Value.oneCell']))
        have BX := (Below.refl w6.heap.size w6).alloc (Nat.le_refl _) (.cells zHead 37)
        have RO7 := Lib.hid ((BX.block _ (obj_lt RO6.out)).trans RO6.out)
        have B7 := Lib.hid (B6.out.trans (BX.mono B6.out.size))
        have HSt := Lib.hid (run_storeVar_row (P := Tryz.prog) _ w.heap.size 37 37 zHead zHead RO7.out (by rw [Tryz.sizeHd]; rfl) rfl (by simp [zHead, Value.oneCell']))
        clear hh BX HE2
        go_wp2_with (first | ((with_reducible refine wpList_store_eq rfl 37 _ _ rfl ⟨w6.heap.size, 0, none⟩ ?_ ?_ HSn.out ?_); rfl; rfl) | ((with_reducible refine wpList_store_eq rfl 37 _ _ rfl ⟨w.heap.size, 0, none⟩ ?_ ?_ HSt.out ?_); rfl; rfl))
        refine bodyPost_ret (results_cell2 rfl _ _ w.heap.size _ zHead (0, 0) _ rfl (setRow_heap _ _ _ _ _ _ RO7.out) Tryz.underlying37 rfl (by rw [Tryz.sizeHd]; rfl)) rfl ?_
        rw [HE3.out]
        exact ⟨rfl, B7.out.trans (below_set (Nat.le_refl _) _)⟩
      | true =>
        have HE3 : Hid (readVG s ok val hd = if hd = ⟨(lOf s).toArray⟩ then .tuple #[.agg (okCellsG (lOf s) val), .nilIface] else badHd 4) := Lib.hid (by rw [HE2.out, if_neg (by rw [hh]; simp)])
        rw [show headVG (lOf s) ok val = .tuple #[.agg (okCellsG (lOf s) val), .nilIface] from by rw [headVG, hh]; rfl]
        have HOC : Hid (okCellsG (lOf s) val = #[.int .i64 0, .string (pathL (lOf s)), .string (cutv (fW (lOf s) 8)), .int .i64 (val 1), .int .i64 (val 2), .int .i64 (val 3), .int .i64 (val 5), .string (cutv (fW (lOf s) 10)), .string (cutv (fW (lOf s) 11)), .string ⟨#[]⟩, .string (fW (lOf s) 7), .int .i64 (val 4)]) := Lib.hid rfl
        have HPH := Lib.hid (HWr.out hh)
        rw [HOC.out] at HPH
        rw [HOC.out]
        generalize pathL (lOf s) = pth at *
        generalize cutv (fW (lOf s) 8) = lk at *
        generalize cutv (fW (lOf s) 10) = us at *
        generalize cutv (fW (lOf s) 11) = gr at *
        generalize val 1 = nm at *
        generalize val 2 = nu at *
        generalize val 3 = ng at *
        generalize val 5 = nt at *
        generalize val 4 = nz at *
        generalize fW (lOf s) 7 = fl at *
        obtain ⟨bl, hbl⟩ : ∃ bl : ByteArray, bl = ⟨(lOf s).toArray⟩ := ⟨_, rfl⟩
        have HCB : Hid (∀ w', Blk w' w1.heap.size (lOf s) → (convert 97 9 (.slice (some ⟨w1.heap.size, 0, none⟩) 512 512)).run Tryz.prog w' = .ok (.string bl) w') := Lib.hid (fun w' h => by rw [hbl]; exact h.conv)
        rw [← hbl] at HE3
        have OB := (Below.refl w6.heap.size w6).alloc (Nat.le_refl _) (.cells #[.int .i64 0, .string pth, .string lk, .int .i64 nm, .int .i64 nu, .int .i64 ng, .int .i64 nt, .string us, .string gr, .string ⟨#[]⟩, .string fl, .int .i64 nz] 37)
        have OX : (w6.alloc (.cells #[.int .i64 0, .string pth, .string lk, .int .i64 nm, .int .i64 nu, .int .i64 ng, .int .i64 nt, .string us, .string gr, .string ⟨#[]⟩, .string fl, .int .i64 nz] 37)).heap[w6.heap.size]? = some (.cells #[.int .i64 0, .string pth, .string lk, .int .i64 nm, .int .i64 nu, .int .i64 ng, .int .i64 nt, .string us, .string gr, .string ⟨#[]⟩, .string fl, .int .i64 nz] 37 (0, 0)) := heap_alloc_last _ _
        have HSn := Lib.hid (run_storeVar_new (P := Tryz.prog) w6 37 zHead #[.int .i64 0, .string pth, .string lk, .int .i64 nm, .int .i64 nu, .int .i64 ng, .int .i64 nt, .string us, .string gr, .string ⟨#[]⟩, .string fl, .int .i64 nz] (by rw [Tryz.sizeHd]; rfl) rfl (by simp [Value.oneCell']))
        have K8 := Lib.hid (K6.out.below OB K6.out.lt)
        have RO8 := Lib.hid ((OB.block _ (obj_lt RO6.out)).trans RO6.out)
        have B8 := Lib.hid (B6.out.trans (OB.mono B6.out.size))
        clear hbl hh HE2 K6 RO6 B6 OB HWr
        go_wp2_with ((with_reducible refine wpList_store_eq rfl 37 _ _ rfl ⟨w6.heap.size, 0, none⟩ ?_ ?_ HSn.out ?_); rfl; rfl)
        generalize w6.alloc (.cells #[.int .i64 0, .string pth, .string lk, .int .i64 nm, .int .i64 nu, .int .i64 ng, .int .i64 nt, .string us, .string gr, .string ⟨#[]⟩, .string fl, .int .i64 nz] 37) = w8 at *
        have OX' := Lib.hid OX
        clear OX HSn
        have zR8 := obj_lt RO8.out
        have zK8 := K8.out.lt
        have KC : Hid (∀ w', Below w8.heap.size w8 w' → w'.cell? ⟨w6.heap.size, 0, none⟩ = some (.int .i64 0) ∧ w'.cell? ⟨w6.heap.size, 1, none⟩ = some (.string pth) ∧ w'.cell? ⟨w6.heap.size, 2, none⟩ = some (.string lk) ∧ w'.cell? ⟨w6.heap.size, 3, none⟩ = some (.int .i64 nm) ∧ w'.cell? ⟨w6.heap.size, 4, none⟩ = some (.int .i64 nu) ∧ w'.cell? ⟨w6.heap.size, 5, none⟩ = some (.int .i64 ng) ∧ w'.cell? ⟨w6.heap.size, 6, none⟩ = some (.int .i64 nt) ∧ w'.cell? ⟨w6.heap.size, 7, none⟩ = some (.string us) ∧ w'.cell? ⟨w6.heap.size, 8, none⟩ = some (.string gr) ∧ w'.cell? ⟨w6.heap.size, 9, none⟩ = some (.string ⟨#[]⟩) ∧ w'.cell? ⟨w6.heap.size, 10, none⟩ = some (.string fl) ∧ w'.cell? ⟨w6.heap.size, 11, none⟩ = some (.int .i64 nz)) := Lib.hid (fun w' hb => by
          have h1 := (hb.block _ (obj_lt OX'.out)).trans OX'.out
          refine ⟨?_, ?_, ?_, ?_, ?_, ?_, ?_, ?_, ?_, ?_, ?_, ?_⟩
          all_goals (rw [cell_of_row _ _ _ _ _ _ h1]; rfl))
        by_cases hq2 : hd = bl
        · have q := ba_eq hq2
          have HE4 : Hid (readVG s ok val hd = .tuple #[.agg #[.int .i64 0, .string pth, .string lk, .int .i64 nm, .int .i64 nu, .int .i64 ng, .int .i64 nt, .string us, .string gr, .string ⟨#[]⟩, .string fl, .int .i64 nz], .nilIface]) := Lib.hid (by rw [HE3.out, if_pos hq2, HOC.out])
          clear HE3 HOC hq2
          refine wp_region_inv (by kernel_rfl) (fun w' => Below w8.heap.size w8 w') (fun x y => Below x.heap.size x y) (fun d v _ => match d with | 36 => v = .func (.func 70) #[] #[] | 37 => v = .agg #[.int .i64 0, .string pth, .string lk, .int .i64 nm, .int .i64 nu, .int .i64 ng, .int .i64 nt, .string us, .string gr, .string ⟨#[]⟩, .string fl, .int .i64 nz] | 38 => v = .string hd | 39 => v = .slice (some ⟨w1.heap.size, 0, none⟩) 512 512 | 40 => v = .string bl | 41 => v = .bool false | _ => True) (by kernel_rfl) ((Below.refl _ _).drew) (fun _ _ _ _ _ _ h => h) ?hops ?hend
          case hops =>
            simp only [List.forall_mem_cons]
            refine ⟨?o36, ?o37, ?o38, ?o39, ?o40, ?o41, fun _ h => by cases h⟩
            case o36 =>
              intro Q a w2 hC hV hI
              have e2 : a.eval (.tmp 2) = .func (.func 70) #[] #[] := (hI 2 (by simp [Op.operands]) (by kernel_rfl)).trans rfl
              have f2 : a.tmps.getD 2 undef = .func (.func 70) #[] #[] := e2
              have g2 : a.tmps[2]?.getD undef = .func (.func 70) #[] #[] := by rw [← Array.getD_eq_getD_getElem?]; exact e2
              refine op_val (.func (.func 70) #[] #[]) ?_ hC (Below.refl _ _) (by intro d hd; cases hd; rfl)
              (clear hV hI hC; go_simp <;> (first | rfl | simp))
            case o37 =>
              intro Q a w2 hC hV hI
              have e9 : a.eval (.tmp 9) = .pointer (some ⟨w6.heap.size, 0, none⟩) := (hI 9 (by simp [Op.operands]) (by kernel_rfl)).trans rfl
              have f9 : a.tmps.getD 9 undef = .pointer (some ⟨w6.heap.size, 0, none⟩) := e9
              have g9 : a.tmps[9]?.getD undef = .pointer (some ⟨w6.heap.size, 0, none⟩) := by rw [← Array.getD_eq_getD_getElem?]; exact e9
              have hK := KC.out w2 hC
              refine op_val (.agg #[.int .i64 0, .string pth, .string lk, .int .i64 nm, .int .i64 nu, .int .i64 ng, .int .i64 nt, .string us, .string gr, .string ⟨#[]⟩, .string fl, .int .i64 nz]) ?_ hC (Below.refl _ _) (by intro d hd; cases hd; rfl)
              (clear hV hI hC; go_simp <;> (first | rfl | simp))
            case o38 =>
              intro Q a w2 hC hV hI
              have e36 : a.eval (.tmp 36) = .func (.func 70) #[] #[] := hV 36 (by simp [Op.operands, Call.operands]) (by kernel_rfl)
              have f36 : a.tmps.getD 36 undef = .func (.func 70) #[] #[] := e36
              have g36 : a.tmps[36]?.getD undef = .func (.func 70) #[] #[] := by rw [← Array.getD_eq_getD_getElem?]; exact e36
              have e37 : a.eval (.tmp 37) = .agg #[.int .i64 0, .string pth, .string lk, .int .i64 nm, .int .i64 nu, .int .i64 ng, .int .i64 nt, .string us, .string gr, .string ⟨#[]⟩, .string fl, .int .i64 nz] := hV 37 (by simp [Op.operands, Call.operands]) (by kernel_rfl)
              have f37 : a.tmps.getD 37 undef = .agg #[.int .i64 0, .string pth, .string lk, .int .i64 nm, .int .i64 nu, .int .i64 ng, .int .i64 nt, .string us, .string gr, .string ⟨#[]⟩, .string fl, .int .i64 nz] := e37
              have g37 : a.tmps[37]?.getD undef = .agg #[.int .i64 0, .string pth, .string lk, .int .i64 nm, .int .i64 nu, .int .i64 ng, .int .i64 nt, .string us, .string gr, .string ⟨#[]⟩, .string fl, .int .i64 nz] := by rw [← Array.getD_eq_getD_getElem?]; exact e37
              refine op_call (f := 70) (args := #[.agg #[.int .i64 0, .string pth, .string lk, .int .i64 nm, .int .i64 nu, .int .i64 ng, .int .i64 nt, .string us, .string gr, .string ⟨#[]⟩, .string fl, .int .i64 nz]]) (R := fun v y => v = .string hd ∧ Below w2.heap.size w2 y) ?_ ((HPH.out w2 (HT.out.below (B8.out.trans (hC.mono B8.out.size))) (HF.out.below (B8.out.trans (hC.mono B8.out.size)))).mono ?_) ?_
              · (clear hV hI hC; go_simp <;> (first | rfl | simp))
              · rintro e y ⟨rfl, hb⟩; exact ⟨_, rfl, rfl, hb⟩
              · rintro v y ⟨rfl, hb⟩; exact ⟨hC.trans (hb.mono hC.size), hb, by intro d hd; cases hd; rfl⟩
            case o39 =>
              intro Q a w2 hC hV hI
              have e8 : a.eval (.tmp 8) = .pointer (some ⟨w1.heap.size, 0, none⟩) := (hI 8 (by simp [Op.operands]) (by kernel_rfl)).trans rfl
              have f8 : a.tmps.getD 8 undef = .pointer (some ⟨w1.heap.size, 0, none⟩) := e8
              have g8 : a.tmps[8]?.getD undef = .pointer (some ⟨w1.heap.size, 0, none⟩) := by rw [← Array.getD_eq_getD_getElem?]; exact e8
              refine op_val (.slice (some ⟨w1.heap.size, 0, none⟩) 512 512) ?_ hC (Below.refl _ _) (by intro d hd; cases hd; rfl)
              (clear hV hI hC; go_simp <;> (first | rfl | simp))
            case o40 =>
              intro Q a w2 hC hV hI
              have e39 : a.eval (.tmp 39) = .slice (some ⟨w1.heap.size, 0, none⟩) 512 512 := hV 39 (by simp [Op.operands]) (by kernel_rfl)
              have f39 : a.tmps.getD 39 undef = .slice (some ⟨w1.heap.size, 0, none⟩) 512 512 := e39
              have g39 : a.tmps[39]?.getD undef = .slice (some ⟨w1.heap.size, 0, none⟩) 512 512 := by rw [← Array.getD_eq_getD_getElem?]; exact e39
              have q9 := HCB.out _ (K8.out.below hC zK8)
              refine op_val (.string bl) ?_ hC (Below.refl _ _) (by intro d hd; cases hd; rfl)
              (clear hV hI hC; go_simp <;> (first | rfl | simp))
            case o41 =>
              intro Q a w2 hC hV hI
              have e38 : a.eval (.tmp 38) = .string hd := hV 38 (by simp [Op.operands]) (by kernel_rfl)
              have f38 : a.tmps.getD 38 undef = .string hd := e38
              have g38 : a.tmps[38]?.getD undef = .string hd := by rw [← Array.getD_eq_getD_getElem?]; exact e38
              have e40 : a.eval (.tmp 40) = .string bl := hV 40 (by simp [Op.operands]) (by kernel_rfl)
              have f40 : a.tmps.getD 40 undef = .string bl := e40
              have g40 : a.tmps[40]?.getD undef = .string bl := by rw [← Array.getD_eq_getD_getElem?]; exact e40
              refine op_val (.bool false) ?_ hC (Below.refl _ _) (by intro d hd; cases hd; rfl)
              (clear hV hI hC; go_simp <;> (first | rfl | simp))
          case hend =>
            intro f w9 hC hall
            simp only [List.forall_mem_cons] at hall
            obtain ⟨h36, h37, h38, h39, h40, h41, _⟩ := hall
            replace h36 : f 36 = .func (.func 70) #[] #[] := h36 36 rfl
            replace h37 : f 37 = .agg #[.int .i64 0, .string pth, .string lk, .int .i64 nm, .int .i64 nu, .int .i64 ng, .int .i64 nt, .string us, .string gr, .string ⟨#[]⟩, .string fl, .int .i64 nz] := h37 37 rfl
            replace h38 : f 38 = .string hd := h38 38 rfl
            replace h39 : f 39 = .slice (some ⟨w1.heap.size, 0, none⟩) 512 512 := h39 39 rfl
            replace h40 : f 40 = .string bl := h40 40 rfl
            replace h41 : f 41 = .bool false := h41 41 rfl
            simp only [putAll, Act.put, List.setIfInBounds_toArray, List.set_cons_succ, List.set_cons_zero, h36, h37, h38, h39, h40, h41]
            clear h36 h37 h38 h39 h40 h41
            have h9 := (hC.block _ (obj_lt OX'.out)).trans OX'.out
            have RO9 := Lib.hid ((hC.block _ zR8).trans RO8.out)
            have B9 := Lib.hid (B8.out.trans (hC.mono B8.out.size))
            have HLd := Lib.hid (run_loadVar_row (P := Tryz.prog) _ _ 37 37 _ (0, 0) _ h9 Tryz.underlying37 rfl (by rw [Tryz.sizeHd]; rfl))
            have HSt := Lib.hid (run_storeVar_row (P := Tryz.prog) _ w.heap.size 37 37 zHead #[.int .i64 0, .string pth, .string lk, .int .i64 nm, .int .i64 nu, .int .i64 ng, .int .i64 nt, .string us, .string gr, .string ⟨#[]⟩, .string fl, .int .i64 nz] RO9.out (by rw [Tryz.sizeHd]; rfl) rfl (by simp [Value.oneCell']))
            clear hC h9
            go_wp2_with (first | ((with_reducible refine wpList_load_eq rfl 37 _ rfl ⟨w6.heap.size, 0, none⟩ ?_ HLd.out ?_); rfl) | ((with_reducible refine wpList_store_eq rfl 37 _ _ rfl ⟨w.heap.size, 0, none⟩ ?_ ?_ HSt.out ?_); rfl; rfl))
            refine bodyPost_ret (results_cell2 rfl _ _ w.heap.size _ #[.int .i64 0, .string pth, .string lk, .int .i64 nm, .int .i64 nu, .int .i64 ng, .int .i64 nt, .string us, .string gr, .string ⟨#[]⟩, .string fl, .int .i64 nz] (0, 0) _ rfl (setRow_heap _ _ _ _ _ _ RO9.out) Tryz.underlying37 rfl (by rw [Tryz.sizeHd]; rfl)) rfl ?_
            rw [HE4.out]
            exact ⟨rfl, B9.out.trans (below_set (Nat.le_refl _) _)⟩
        · have q := ba_ne hq2
          have HE4 : Hid (readVG s ok val hd = badHd 4) := Lib.hid (by rw [HE3.out, if_neg hq2])
          clear HE3 HOC hq2
          refine wp_region_inv (by kernel_rfl) (fun w' => Below w8.heap.size w8 w') (fun x y => Below x.heap.size x y) (fun d v _ => match d with | 36 => v = .func (.func 70) #[] #[] | 37 => v = .agg #[.int .i64 0, .string pth, .string lk, .int .i64 nm, .int .i64 nu, .int .i64 ng, .int .i64 nt, .string us, .string gr, .string ⟨#[]⟩, .string fl, .int .i64 nz] | 38 => v = .string hd | 39 => v = .slice (some ⟨w1.heap.size, 0, none⟩) 512 512 | 40 => v = .string bl | 41 => v = .bool true | _ => True) (by kernel_rfl) ((Below.refl _ _).drew) (fun _ _ _ _ _ _ h => h) ?hops ?hend
          case hops =>
            simp only [List.forall_mem_cons]
            refine ⟨?o36, ?o37, ?o38, ?o39, ?o40, ?o41, fun _ h => by cases h⟩
            case o36 =>
              intro Q a w2 hC hV hI
              have e2 : a.eval (.tmp 2) = .func (.func 70) #[] #[] := (hI 2 (by simp [Op.operands]) (by kernel_rfl)).trans rfl
              have f2 : a.tmps.getD 2 undef = .func (.func 70) #[] #[] := e2
              have g2 : a.tmps[2]?.getD undef = .func (.func 70) #[] #[] := by rw [← Array.getD_eq_getD_getElem?]; exact e2
              refine op_val (.func (.func 70) #[] #[]) ?_ hC (Below.refl _ _) (by intro d hd; cases hd; rfl)
              (clear hV hI hC; go_simp <;> (first | rfl | simp))
            case o37 =>
              intro Q a w2 hC hV hI
              have e9 : a.eval (.tmp 9) = .pointer (some ⟨w6.heap.size, 0, none⟩) := (hI 9 (by simp [Op.operands]) (by kernel_rfl)).trans rfl
              have f9 : a.tmps.getD 9 undef = .pointer (some ⟨w6.heap.size, 0, none⟩) := e9
              have g9 : a.tmps[9]?.getD undef = .pointer (some ⟨w6.heap.size, 0, none⟩) := by rw [← Array.getD_eq_getD_getElem?]; exact e9
              have hK := KC.out w2 hC
              refine op_val (.agg #[.int .i64 0, .string pth, .string lk, .int .i64 nm, .int .i64 nu, .int .i64 ng, .int .i64 nt, .string us, .string gr, .string ⟨#[]⟩, .string fl, .int .i64 nz]) ?_ hC (Below.refl _ _) (by intro d hd; cases hd; rfl)
              (clear hV hI hC; go_simp <;> (first | rfl | simp))
            case o38 =>
              intro Q a w2 hC hV hI
              have e36 : a.eval (.tmp 36) = .func (.func 70) #[] #[] := hV 36 (by simp [Op.operands, Call.operands]) (by kernel_rfl)
              have f36 : a.tmps.getD 36 undef = .func (.func 70) #[] #[] := e36
              have g36 : a.tmps[36]?.getD undef = .func (.func 70) #[] #[] := by rw [← Array.getD_eq_getD_getElem?]; exact e36
              have e37 : a.eval (.tmp 37) = .agg #[.int .i64 0, .string pth, .string lk, .int .i64 nm, .int .i64 nu, .int .i64 ng, .int .i64 nt, .string us, .string gr, .string ⟨#[]⟩, .string fl, .int .i64 nz] := hV 37 (by simp [Op.operands, Call.operands]) (by kernel_rfl)
              have f37 : a.tmps.getD 37 undef = .agg #[.int .i64 0, .string pth, .string lk, .int .i64 nm, .int .i64 nu, .int .i64 ng, .int .i64 nt, .string us, .string gr, .string ⟨#[]⟩, .string fl, .int .i64 nz] := e37
              have g37 : a.tmps[37]?.getD undef = .agg #[.int .i64 0, .string pth, .string lk, .int .i64 nm, .int .i64 nu, .int .i64 ng, .int .i64 nt, .string us, .string gr, .string ⟨#[]⟩, .string fl, .int .i64 nz] := by rw [← Array.getD_eq_getD_getElem?]; exact e37
              refine op_call (f := 70) (args := #[.agg #[.int .i64 0, .string pth, .string lk, .int .i64 nm, .int .i64 nu, .int .i64 ng, .int .i64 nt, .string us, .string gr, .string ⟨#[]⟩, .string fl, .int .i64 nz]]) (R := fun v y => v = .string hd ∧ Below w2.heap.size w2 y) ?_ ((HPH.out w2 (HT.out.below (B8.out.trans (hC.mono B8.out.size))) (HF.out.below (B8.out.trans (hC.mono B8.out.size)))).mono ?_) ?_
              · (clear hV hI hC; go_simp <;> (first | rfl | simp))
              · rintro e y ⟨rfl, hb⟩; exact ⟨_, rfl, rfl, hb⟩
              · rintro v y ⟨rfl, hb⟩; exact ⟨hC.trans (hb.mono hC.size), hb, by intro d hd; cases hd; rfl⟩
            case o39 =>
              intro Q a w2 hC hV hI
              have e8 : a.eval (.tmp 8) = .pointer (some ⟨w1.heap.size, 0, none⟩) := (hI 8 (by simp [Op.operands]) (by kernel_rfl)).trans rfl
              have f8 : a.tmps.getD 8 undef = .pointer (some ⟨w1.heap.size, 0, none⟩) := e8
              have g8 : a.tmps[8]?.getD undef = .pointer (some ⟨w1.heap.size, 0, none⟩) := by rw [← Array.getD_eq_getD_getElem?]; exact e8
              refine op_val (.slice (some ⟨w1.heap.size, 0, none⟩) 512 512) ?_ hC (Below.refl _ _) (by intro d hd; cases hd; rfl)
              (clear hV hI hC; go_simp <;> (first | rfl | simp))
            case o40 =>
              intro Q a w2 hC hV hI
              have e39 : a.eval (.tmp 39) = .slice (some ⟨w1.heap.size, 0, none⟩) 512 512 := hV 39 (by simp [Op.operands]) (by kernel_rfl)
              have f39 : a.tmps.getD 39 undef = .slice (some ⟨w1.heap.size, 0, none⟩) 512 512 := e39
              have g39 : a.tmps[39]?.getD undef = .slice (some ⟨w1.heap.size, 0, none⟩) 512 512 := by rw [← Array.getD_eq_getD_getElem?]; exact e39
              have q9 := HCB.out _ (K8.out.below hC zK8)
              refine op_val (.string bl) ?_ hC (Below.refl _ _) (by intro d hd; cases hd; rfl)
              (clear hV hI hC; go_simp <;> (first | rfl | simp))
            case o41 =>
              intro Q a w2 hC hV hI
              have e38 : a.eval (.tmp 38) = .string hd := hV 38 (by simp [Op.operands]) (by kernel_rfl)
              have f38 : a.tmps.getD 38 undef = .string hd := e38
              have g38 : a.tmps[38]?.getD undef = .string hd := by rw [← Array.getD_eq_getD_getElem?]; exact e38
              have e40 : a.eval (.tmp 40) = .string bl := hV 40 (by simp [Op.operands]) (by kernel_rfl)
              have f40 : a.tmps.getD 40 undef = .string bl := e40
              have g40 : a.tmps[40]?.getD undef = .string bl := by rw [← Array.getD_eq_getD_getElem?]; exact e40
              refine op_val (.bool true) ?_ hC (Below.refl _ _) (by intro d hd; cases hd; rfl)
              (clear hV hI hC; go_simp <;> (first | rfl | simp))
          case hend =>
            intro f w9 hC hall
            simp only [List.forall_mem_cons] at hall
            obtain ⟨h36, h37, h38, h39, h40, h41, _⟩ := hall
            replace h36 : f 36 = .func (.func 70) #[] #[] := h36 36 rfl
            replace h37 : f 37 = .agg #[.int .i64 0, .string pth, .string lk, .int .i64 nm, .int .i64 nu, .int .i64 ng, .int .i64 nt, .string us, .string gr, .string ⟨#[]⟩, .string fl, .int .i64 nz] := h37 37 rfl
            replace h38 : f 38 = .string hd := h38 38 rfl
            replace h39 : f 39 = .slice (some ⟨w1.heap.size, 0, none⟩) 512 512 := h39 39 rfl
            replace h40 : f 40 = .string bl := h40 40 rfl
            replace h41 : f 41 = .bool true := h41 41 rfl
            simp only [putAll, Act.put, List.setIfInBounds_toArray, List.set_cons_succ, List.set_cons_zero, h36, h37, h38, h39, h40, h41]
            clear h36 h37 h38 h39 h40 h41
            have RO9 := Lib.hid ((hC.block _ zR8).trans RO8.out)
            have B9 := Lib.hid (B8.out.trans (hC.mono B8.out.size))
            have HSt := Lib.hid (run_storeVar_row (P := Tryz.prog) _ w.heap.size 37 37 zHead zHead RO9.out (by rw [Tryz.sizeHd]; rfl) rfl (by simp [zHead, Value.oneCell']))
            clear hC
            go_wp2_with ((with_reducible refine wpList_store_eq rfl 37 _ _ rfl ⟨w.heap.size, 0, none⟩ ?_ ?_ HSt.out ?_); rfl; rfl)
            refine bodyPost_ret (results_cell2 rfl _ _ w.heap.size _ zHead (0, 0) _ rfl (setRow_heap _ _ _ _ _ _ RO9.out) Tryz.underlying37 rfl (by rw [Tryz.sizeHd]; rfl)) rfl ?_
            rw [HE4.out]
            exact ⟨rfl, B9.out.trans (below_set (Nat.le_refl _) _)⟩
  · have q := ba_ne hq
    have HE2 : Hid (readVG s ok val hd = badHd 2) := Lib.hid (by rw [HE.out, HQ.out, if_pos (by simp [hq])])
    clear HE HQ hq HHd
    refine wp_region_inv (by kernel_rfl) (fun w' => Below w4.heap.size w4 w') (fun x y => Below x.heap.size x y) (fun d v _ => match d with | 19 => v = .slice (some ⟨w1.heap.size, 148, none⟩) 8 8 | 20 => v = .string f6 | 21 => v = .string s | 22 => v = .string st | 23 => v = .bool true | _ => True) (by kernel_rfl) ((Below.refl _ _).drew) (fun _ _ _ _ _ _ h => h) ?hops ?hend
    case hops =>
      simp only [List.forall_mem_cons]
      refine ⟨?o19, ?o20, ?o21, ?o22, ?o23, fun _ h => by cases h⟩
      case o19 =>
        intro Q a w2 hC hV hI
        have e8 : a.eval (.tmp 8) = .pointer (some ⟨w1.heap.size, 0, none⟩) := (hI 8 (by simp [Op.operands, Call.operands]) (by kernel_rfl)).trans rfl
        have f8 : a.tmps.getD 8 undef = .pointer (some ⟨w1.heap.size, 0, none⟩) := e8
        have g8 : a.tmps[8]?.getD undef = .pointer (some ⟨w1.heap.size, 0, none⟩) := by rw [← Array.getD_eq_getD_getElem?]; exact e8
        refine op_call (f := 105) (args := #[.pointer (some ⟨w1.heap.size, 0, none⟩), .int .i64 6]) (R := fun v y => v = .slice (some ⟨w1.heap.size, 148, none⟩) 8 8 ∧ w2 = y) ?_ ((HF6.out w1.heap.size w2 (HF.out.below (BT4.out _ hC))).mono ?_) ?_
        · (clear hV hI hC; go_simp <;> (first | rfl | simp))
        · rintro e y ⟨rfl, rfl⟩; exact ⟨_, rfl, rfl, rfl⟩
        · rintro v y ⟨rfl, rfl⟩; exact ⟨hC, Below.refl _ _, by intro d hd; cases hd; rfl⟩
      case o20 =>
        intro Q a w2 hC hV hI
        have e19 : a.eval (.tmp 19) = .slice (some ⟨w1.heap.size, 148, none⟩) 8 8 := hV 19 (by simp [Op.operands]) (by kernel_rfl)
        have f19 : a.tmps.getD 19 undef = .slice (some ⟨w1.heap.size, 148, none⟩) 8 8 := e19
        have g19 : a.tmps[19]?.getD undef = .slice (some ⟨w1.heap.size, 148, none⟩) 8 8 := by rw [← Array.getD_eq_getD_getElem?]; exact e19
        have q9 := HCV.out _ w2 (K4.out.below hC z4)
        refine op_val (.string f6) ?_ hC (Below.refl _ _) (by intro d hd; cases hd; rfl)
        (clear hV hI hC; go_simp <;> (first | rfl | simp))
      case o21 =>
        intro Q a w2 hC hV hI
        have e0 : a.eval (.tmp 0) = .string s := (hI 0 (by simp [Op.operands]) (by kernel_rfl)).trans rfl
        have f0 : a.tmps.getD 0 undef = .string s := e0
        have g0 : a.tmps[0]?.getD undef = .string s := by rw [← Array.getD_eq_getD_getElem?]; exact e0
        refine op_val (.string s) ?_ hC (Below.refl _ _) (by intro d hd; cases hd; rfl)
        (clear hV hI hC; go_simp <;> (first | rfl | simp))
      case o22 =>
        intro Q a w2 hC hV hI
        have e21 : a.eval (.tmp 21) = .string s := hV 21 (by simp [Op.operands, Call.operands]) (by kernel_rfl)
        have f21 : a.tmps.getD 21 undef = .string s := e21
        have g21 : a.tmps[21]?.getD undef = .string s := by rw [← Array.getD_eq_getD_getElem?]; exact e21
        refine op_call (f := 106) (args := #[.string s]) (R := fun v y => v = .string st ∧ Below w2.heap.size w2 y) ?_ ((HSum.out w2 (HT.out.below (BT4.out _ hC)) (HF.out.below (BT4.out _ hC))).mono ?_) ?_
        · (clear hV hI hC; go_simp <;> (first | rfl | simp))
        · rintro e y ⟨rfl, hb⟩; exact ⟨_, rfl, rfl, hb⟩
        · rintro v y ⟨rfl, hb⟩; exact ⟨hC.trans (hb.mono hC.size), hb, by intro d hd; cases hd; rfl⟩
      case o23 =>
        intro Q a w2 hC hV hI
        have e20 : a.eval (.tmp 20) = .string f6 := hV 20 (by simp [Op.operands]) (by kernel_rfl)
        have f20 : a.tmps.getD 20 undef = .string f6 := e20
        have g20 : a.tmps[20]?.getD undef = .string f6 := by rw [← Array.getD_eq_getD_getElem?]; exact e20
        have e22 : a.eval (.tmp 22) = .string st := hV 22 (by simp [Op.operands]) (by kernel_rfl)
        have f22 : a.tmps.getD 22 undef = .string st := e22
        have g22 : a.tmps[22]?.getD undef = .string st := by rw [← Array.getD_eq_getD_getElem?]; exact e22
        refine op_val (.bool true) ?_ hC (Below.refl _ _) (by intro d hd; cases hd; rfl)
        (clear hV hI hC; go_simp <;> (first | rfl | simp))
    case hend =>
      intro f w5 hC hall
      simp only [List.forall_mem_cons] at hall
      obtain ⟨h19, h20, h21, h22, h23, _⟩ := hall
      replace h19 : f 19 = .slice (some ⟨w1.heap.size, 148, none⟩) 8 8 := h19 19 rfl
      replace h20 : f 20 = .string f6 := h20 20 rfl
      replace h21 : f 21 = .string s := h21 21 rfl
      replace h22 : f 22 = .string st := h22 22 rfl
      replace h23 : f 23 = .bool true := h23 23 rfl
      simp only [putAll, Act.put, List.setIfInBounds_toArray, List.set_cons_succ, List.set_cons_zero, h19, h20, h21, h22, h23]
      clear h19 h20 h21 h22 h23
      have RO5 := Lib.hid ((hC.block _ (Nat.lt_trans zR z4)).trans RO4.out)
      have B5 := Lib.hid (BT4.out _ hC)
      have HSt := Lib.hid (run_storeVar_row (P := Tryz.prog) w5 w.heap.size 37 37 zHead zHead RO5.out (by rw [Tryz.sizeHd]; rfl) rfl (by simp [zHead, Value.oneCell']))
      clear hC
      go_wp2_with ((with_reducible refine wpList_store_eq rfl 37 _ _ rfl ⟨w.heap.size, 0, none⟩ ?_ ?_ HSt.out ?_); rfl; rfl)
      refine bodyPost_ret (results_cell2 rfl _ _ w.heap.size _ zHead (0, 0) _ rfl (setRow_heap _ _ _ _ _ _ RO5.out) Tryz.underlying37 rfl (by rw [Tryz.sizeHd]; rfl)) rfl ?_
      rw [HE2.out]
      exact ⟨rfl, B5.out.trans (below_set (Nat.le_refl _) _)⟩

end Go.Proofs.YtgpgkgahbkmdiabGreatDoor

/- Contract of impl.block's method head, where the numbers may be in binary. -/
namespace Go.Proofs.YtgpgkgahbkmdiabGreatDoor
open Go.ChangeShapes Go.WideShapes Go.ChangeAt Go.RowKit

set_option maxHeartbeats 6400000 in
set_option maxRecDepth 8000 in
theorem head_long (ok : Nat → Bool) (val : Nat → Int) (g : Nat) (l : List UInt8) (w : World) (hN : ∀ k x : Nat, 1 ≤ k → k ≤ 5 → widths[k]? = some x → ∀ w, Tabs w → FW w → Blk w g l → Calls Tryz.prog 69 #[.pointer (some ⟨g, 0, none⟩), .int .i64 k] w fun e w' => e = .returned (if ok k = true then .tuple #[.int .i64 (val k), .nilIface] else .tuple #[.int .i64 0, .iface 81 (.agg #[.int .i64 3])]) ∧ Below w.heap.size w w') (hTb : Tabs w) (hF : FW w) (hB : Blk w g l) :
    Calls Tryz.prog 107 #[.pointer (some ⟨g, 0, none⟩), .func (.func 69) #[] #[]] w fun e w' => e = .returned (headVG l ok val) ∧ Below w.heap.size w w' := by
  have H1 := Lib.hid (fun w h => field_any g 7 1 w (by omega) rfl h)
  have HC := Lib.hid (fun w (h : Blk w g l) => h.convAt 156 1 (by omega))
  rw [show offs 7 = 156 from rfl] at H1
  rw [show (⟨((l.drop 156).take 1).toArray⟩ : ByteArray) = fW l 7 from rfl] at HC
  have HB := Lib.hid hB
  have HF := Lib.hid hF
  have HTb := Lib.hid hTb
  have HNum := Lib.hid hN
  have zg := hB.lt
  clear hB hF hTb hN
  have FA := fun o => Lib.hid (HF.out.below ((Below.refl _ _).alloc (Nat.le_refl _) o))
  have BA := fun o => HC.out _ (HB.out.below ((Below.refl w.heap.size w).alloc (Nat.le_refl _) o) zg)
  obtain ⟨fl, hfl⟩ : ∃ fl, fW l 7 = fl := ⟨_, rfl⟩
  obtain ⟨M, hM⟩ : ∃ M, val 1 = M := ⟨_, rfl⟩
  obtain ⟨U, hU⟩ : ∃ M, val 2 = M := ⟨_, rfl⟩
  obtain ⟨G, hG⟩ : ∃ M, val 3 = M := ⟨_, rfl⟩
  obtain ⟨Z, hZ⟩ : ∃ M, val 4 = M := ⟨_, rfl⟩
  obtain ⟨T, hT⟩ : ∃ M, val 5 = M := ⟨_, rfl⟩
  have HBad := Lib.hid (fun i hi h => head_badG (l := l) (ok5_badG (ok := ok) (val := val) (i := i) hi h))
  simp only [hfl] at BA
  have KM := Lib.hid hM
  have KU := Lib.hid hU
  have KG := Lib.hid hG
  have KZ := Lib.hid hZ
  have KT := Lib.hid hT
  have KF := Lib.hid hfl
  clear hM hU hG hZ hT hfl HC
  go_enter Tryz.func107, Tryz.ntmps107
  go_wp2_with fail
  refine (H1.out _ (FA _).out).mono ?_
  rintro e w1 ⟨rfl, rfl⟩
  go_wp2_with fail
  go_region
  go_wp2_with fail
  go_loopw [39] (fun u wr => ∃ i : Nat, u = .int .i64 i ∧ i ≤ 5 ∧ ok5G ok i = true ∧ wr.heap[w.heap.size]? = some (.cells zHead 37 (0, 0)) ∧ wr.heap[w.heap.size + 1]? = some (.cells (hcl fl M U G Z T i) 37 (0, 0)) ∧ Below w.heap.size w wr) (fun u _ => 5 - (intOf u).toNat)
  case atStart =>
    exact ⟨0, rfl, by omega, rfl, (three_new w _ _ _).1, (three_new w _ _ _).2.1, (three_new w _ _ _).2.2⟩
  case round =>
    obtain ⟨i, rfl, hi, hok, hR, hH, hb⟩ := hrel
    have RO := Lib.hid hR
    have HO := Lib.hid hH
    have B := Lib.hid hb
    have OK := Lib.hid hok
    have lH : w.heap.size + 1 < wr.heap.size := (Array.getElem?_eq_some_iff.1 hH).1
    clear hR hH hb hok FA BA H1
    by_cases h5 : i = 5
    · subst h5
      have HT0 := Lib.hid (fun w hF hB => text_any g 0 100 l w (by omega) rfl hF hB)
      have HT8 := Lib.hid (fun w hF hB => text_any g 8 100 l w (by omega) rfl hF hB)
      have HT10 := Lib.hid (fun w hF hB => text_any g 10 32 l w (by omega) rfl hF hB)
      have HT11 := Lib.hid (fun w hF hB => text_any g 11 32 l w (by omega) rfl hF hB)
      have HT14 := Lib.hid (fun w hF hB => text_any g 14 155 l w (by omega) rfl hF hB)
      rw [show fieldv l 0 100 = fW l 0 from rfl] at HT0
      rw [show fieldv l 8 100 = fW l 8 from rfl] at HT8
      rw [show fieldv l 10 32 = fW l 10 from rfl] at HT10
      rw [show fieldv l 11 32 = fW l 11 from rfl] at HT11
      rw [show fieldv l 14 155 = fW l 14 from rfl] at HT14
      have c11 : wr.cell? ⟨w.heap.size + 1, 11, none⟩ = some (.int .i64 Z) := by rw [cell_of_row _ _ _ _ _ _ HO.out]; rfl
      by_cases hz : Z ≤ 3000
      · have HE : Hid (headVG l ok val = .tuple #[.agg #[.int .i64 0, .string (pathL l), .string (cutv (fW l 8)), .int .i64 M, .int .i64 U, .int .i64 G, .int .i64 T, .string (cutv (fW l 10)), .string (cutv (fW l 11)), .string ⟨#[]⟩, .string fl, .int .i64 Z], .nilIface]) := Lib.hid (by
          have h1 : headOkG ok val = true := by rw [headOkG, OK.out, KZ.out]; simpa using hz
          rw [headVG, h1, okCellsG, KM.out, KU.out, KG.out, KT.out, KZ.out, KF.out]; rfl)
        have HP : Hid (pathL l = if (cutv (fW l 14)).size = 0 then cutv (fW l 0) else cutv (fW l 14) ++ ⟨#[47]⟩ ++ cutv (fW l 0)) := Lib.hid rfl
        have z0 : (cutv (fW l 0)).size ≤ 155 := fW_small l 0
        have z14 : (cutv (fW l 14)).size ≤ 155 := fW_small l 14
        generalize pathL l = pth at HE HP
        generalize cutv (fW l 0) = t0 at *
        generalize cutv (fW l 8) = t8 at *
        generalize cutv (fW l 10) = t10 at *
        generalize cutv (fW l 11) = t11 at *
        generalize cutv (fW l 14) = t14 at *
        clear HBad OK KM KU KG KZ KT KF
        go_wp2_with fail
        refine (HT0.out _ (HF.out.below B.out) (HB.out.below B.out zg)).mono ?_
        rintro e w2 ⟨rfl, hb⟩
        have RO2 := Lib.hid ((hb.block _ (obj_lt RO.out)).trans RO.out)
        have HO2 := Lib.hid ((hb.block _ (obj_lt HO.out)).trans HO.out)
        have B2 := Lib.hid (B.out.trans (hb.mono B.out.size))
        clear hb RO HO B c11
        have cA : w2.cell? ⟨w.heap.size + 1, 1, none⟩ = some (.string ⟨#[]⟩) := by rw [cell_of_row _ _ _ _ _ _ HO2.out]; rfl
        have fA : w2.frozen? ⟨w.heap.size + 1, 1, none⟩ = false := obj_frozen HO2.out
        have S2 := Lib.hid (set_new (cs' := #[.int .i64 0, .string t0, .string ⟨#[]⟩, .int .i64 M, .int .i64 U, .int .i64 G, .int .i64 T, .string ⟨#[]⟩, .string ⟨#[]⟩, .string ⟨#[]⟩, .string fl, .int .i64 Z]) 1 (.string t0) RO2.out HO2.out B2.out rfl)
        go_wp2_with fail
        refine (HT14.out _ (HF.out.below S2.out.2.2) (HB.out.below S2.out.2.2 zg)).mono ?_
        rintro e w3 ⟨rfl, hb⟩
        have RO3 := Lib.hid ((hb.block _ (obj_lt S2.out.1)).trans S2.out.1)
        have HO3 := Lib.hid ((hb.block _ (obj_lt S2.out.2.1)).trans S2.out.2.1)
        have B3 := Lib.hid (S2.out.2.2.trans (hb.mono S2.out.2.2.size))
        clear hb S2 RO2 HO2 B2 cA fA
        by_cases h14 : t14.size = 0
        · have q := empty_t h14
          have hpth : t0 = pth := by rw [HP.out, if_pos h14]
          subst hpth
          clear h14 HP
          go_wp2_with fail
          refine (HT8.out _ (HF.out.below B3.out) (HB.out.below B3.out zg)).mono ?_
          rintro e w5 ⟨rfl, hb⟩
          have RO5 := Lib.hid ((hb.block _ (obj_lt RO3.out)).trans RO3.out)
          have HO5 := Lib.hid ((hb.block _ (obj_lt HO3.out)).trans HO3.out)
          have B5 := Lib.hid (B3.out.trans (hb.mono B3.out.size))
          clear hb
          have cA : w5.cell? ⟨w.heap.size + 1, 2, none⟩ = some (.string ⟨#[]⟩) := by rw [cell_of_row _ _ _ _ _ _ HO5.out]; rfl
          have fA : w5.frozen? ⟨w.heap.size + 1, 2, none⟩ = false := obj_frozen HO5.out
          have S5 := Lib.hid (set_new (cs' := #[.int .i64 0, .string t0, .string t8, .int .i64 M, .int .i64 U, .int .i64 G, .int .i64 T, .string ⟨#[]⟩, .string ⟨#[]⟩, .string ⟨#[]⟩, .string fl, .int .i64 Z]) 2 (.string t8) RO5.out HO5.out B5.out rfl)
          go_wp2_with fail
          refine (HT10.out _ (HF.out.below S5.out.2.2) (HB.out.below S5.out.2.2 zg)).mono ?_
          rintro e w6 ⟨rfl, hb⟩
          have RO6 := Lib.hid ((hb.block _ (obj_lt S5.out.1)).trans S5.out.1)
          have HO6 := Lib.hid ((hb.block _ (obj_lt S5.out.2.1)).trans S5.out.2.1)
          have B6 := Lib.hid (S5.out.2.2.trans (hb.mono S5.out.2.2.size))
          clear hb
          have cA : w6.cell? ⟨w.heap.size + 1, 7, none⟩ = some (.string ⟨#[]⟩) := by rw [cell_of_row _ _ _ _ _ _ HO6.out]; rfl
          have fA : w6.frozen? ⟨w.heap.size + 1, 7, none⟩ = false := obj_frozen HO6.out
          have S6 := Lib.hid (set_new (cs' := #[.int .i64 0, .string t0, .string t8, .int .i64 M, .int .i64 U, .int .i64 G, .int .i64 T, .string t10, .string ⟨#[]⟩, .string ⟨#[]⟩, .string fl, .int .i64 Z]) 7 (.string t10) RO6.out HO6.out B6.out rfl)
          go_wp2_with fail
          refine (HT11.out _ (HF.out.below S6.out.2.2) (HB.out.below S6.out.2.2 zg)).mono ?_
          rintro e w7 ⟨rfl, hb⟩
          have RO7 := Lib.hid ((hb.block _ (obj_lt S6.out.1)).trans S6.out.1)
          have HO7 := Lib.hid ((hb.block _ (obj_lt S6.out.2.1)).trans S6.out.2.1)
          have B7 := Lib.hid (S6.out.2.2.trans (hb.mono S6.out.2.2.size))
          clear hb
          have cA : w7.cell? ⟨w.heap.size + 1, 8, none⟩ = some (.string ⟨#[]⟩) := by rw [cell_of_row _ _ _ _ _ _ HO7.out]; rfl
          have fA : w7.frozen? ⟨w.heap.size + 1, 8, none⟩ = false := obj_frozen HO7.out
          have S7 := Lib.hid (set_new (cs' := #[.int .i64 0, .string t0, .string t8, .int .i64 M, .int .i64 U, .int .i64 G, .int .i64 T, .string t10, .string t11, .string ⟨#[]⟩, .string fl, .int .i64 Z]) 8 (.string t11) RO7.out HO7.out B7.out rfl)
          have HLd := Lib.hid (run_loadVar_row (P := Tryz.prog) _ _ 37 37 _ (0, 0) _ S7.out.2.1 Tryz.underlying37 rfl (by rw [Tryz.sizeHd]; rfl))
          have HSt := Lib.hid (run_storeVar_row (P := Tryz.prog) _ w.heap.size 37 37 zHead #[.int .i64 0, .string t0, .string t8, .int .i64 M, .int .i64 U, .int .i64 G, .int .i64 T, .string t10, .string t11, .string ⟨#[]⟩, .string fl, .int .i64 Z] S7.out.1 (by rw [Tryz.sizeHd]; rfl) rfl (by simp [Value.oneCell']))
          go_wp2_with (first
            | ((with_reducible refine wpList_load_eq rfl 37 _ rfl ⟨w.heap.size + 1, 0, none⟩ ?_ HLd.out ?_); rfl)
            | ((with_reducible refine wpList_store_eq rfl 37 _ _ rfl ⟨w.heap.size, 0, none⟩ ?_ ?_ HSt.out ?_); rfl; rfl))
          refine bodyPost_ret (results_cell2 rfl _ _ w.heap.size _ #[.int .i64 0, .string t0, .string t8, .int .i64 M, .int .i64 U, .int .i64 G, .int .i64 T, .string t10, .string t11, .string ⟨#[]⟩, .string fl, .int .i64 Z] (0, 0) _ rfl (setRow_heap _ _ _ _ _ _ S7.out.1) Tryz.underlying37 rfl (by rw [Tryz.sizeHd]; rfl)) rfl ?_
          rw [HE.out]
          exact ⟨rfl, S7.out.2.2.trans (below_set (Nat.le_refl _) _)⟩
        · have q := empty_f h14
          have HPP : Hid (t14 ++ ⟨#[47]⟩ ++ t0 = pth) := Lib.hid (by rw [HP.out, if_neg h14])
          have cA : w3.cell? ⟨w.heap.size + 1, 1, none⟩ = some (.string t0) := by rw [cell_of_row _ _ _ _ _ _ HO3.out]; rfl
          have fA : w3.frozen? ⟨w.heap.size + 1, 1, none⟩ = false := obj_frozen HO3.out
          have zs : (t14 ++ (⟨#[47]⟩ : ByteArray)).size ≤ 156 := by rw [ByteArray.size_append]; have : (⟨#[47]⟩ : ByteArray).size = 1 := rfl; omega
          have S3 := Lib.hid (set_new (cs' := #[.int .i64 0, .string pth, .string ⟨#[]⟩, .int .i64 M, .int .i64 U, .int .i64 G, .int .i64 T, .string ⟨#[]⟩, .string ⟨#[]⟩, .string ⟨#[]⟩, .string fl, .int .i64 Z]) 1 (.string pth) RO3.out HO3.out B3.out rfl)
          rw [← HPP.out] at S3
          clear h14 HP RO3 HO3 B3
          go_wp2_with fail
          refine (HT8.out _ (HF.out.below S3.out.2.2) (HB.out.below S3.out.2.2 zg)).mono ?_
          rintro e w5 ⟨rfl, hb⟩
          have RO5 := Lib.hid ((hb.block _ (obj_lt S3.out.1)).trans S3.out.1)
          have HO5 := Lib.hid ((hb.block _ (obj_lt S3.out.2.1)).trans S3.out.2.1)
          have B5 := Lib.hid (S3.out.2.2.trans (hb.mono S3.out.2.2.size))
          clear hb
          have cA : w5.cell? ⟨w.heap.size + 1, 2, none⟩ = some (.string ⟨#[]⟩) := by rw [cell_of_row _ _ _ _ _ _ HO5.out]; rfl
          have fA : w5.frozen? ⟨w.heap.size + 1, 2, none⟩ = false := obj_frozen HO5.out
          have S5 := Lib.hid (set_new (cs' := #[.int .i64 0, .string (t14 ++ ⟨#[47]⟩ ++ t0), .string t8, .int .i64 M, .int .i64 U, .int .i64 G, .int .i64 T, .string ⟨#[]⟩, .string ⟨#[]⟩, .string ⟨#[]⟩, .string fl, .int .i64 Z]) 2 (.string t8) RO5.out HO5.out B5.out rfl)
          go_wp2_with fail
          refine (HT10.out _ (HF.out.below S5.out.2.2) (HB.out.below S5.out.2.2 zg)).mono ?_
          rintro e w6 ⟨rfl, hb⟩
          have RO6 := Lib.hid ((hb.block _ (obj_lt S5.out.1)).trans S5.out.1)
          have HO6 := Lib.hid ((hb.block _ (obj_lt S5.out.2.1)).trans S5.out.2.1)
          have B6 := Lib.hid (S5.out.2.2.trans (hb.mono S5.out.2.2.size))
          clear hb
          have cA : w6.cell? ⟨w.heap.size + 1, 7, none⟩ = some (.string ⟨#[]⟩) := by rw [cell_of_row _ _ _ _ _ _ HO6.out]; rfl
          have fA : w6.frozen? ⟨w.heap.size + 1, 7, none⟩ = false := obj_frozen HO6.out
          have S6 := Lib.hid (set_new (cs' := #[.int .i64 0, .string (t14 ++ ⟨#[47]⟩ ++ t0), .string t8, .int .i64 M, .int .i64 U, .int .i64 G, .int .i64 T, .string t10, .string ⟨#[]⟩, .string ⟨#[]⟩, .string fl, .int .i64 Z]) 7 (.string t10) RO6.out HO6.out B6.out rfl)
          go_wp2_with fail
          refine (HT11.out _ (HF.out.below S6.out.2.2) (HB.out.below S6.out.2.2 zg)).mono ?_
          rintro e w7 ⟨rfl, hb⟩
          have RO7 := Lib.hid ((hb.block _ (obj_lt S6.out.1)).trans S6.out.1)
          have HO7 := Lib.hid ((hb.block _ (obj_lt S6.out.2.1)).trans S6.out.2.1)
          have B7 := Lib.hid (S6.out.2.2.trans (hb.mono S6.out.2.2.size))
          clear hb
          have cA : w7.cell? ⟨w.heap.size + 1, 8, none⟩ = some (.string ⟨#[]⟩) := by rw [cell_of_row _ _ _ _ _ _ HO7.out]; rfl
          have fA : w7.frozen? ⟨w.heap.size + 1, 8, none⟩ = false := obj_frozen HO7.out
          have S7 := Lib.hid (set_new (cs' := #[.int .i64 0, .string (t14 ++ ⟨#[47]⟩ ++ t0), .string t8, .int .i64 M, .int .i64 U, .int .i64 G, .int .i64 T, .string t10, .string t11, .string ⟨#[]⟩, .string fl, .int .i64 Z]) 8 (.string t11) RO7.out HO7.out B7.out rfl)
          have HLd := Lib.hid (run_loadVar_row (P := Tryz.prog) _ _ 37 37 _ (0, 0) _ S7.out.2.1 Tryz.underlying37 rfl (by rw [Tryz.sizeHd]; rfl))
          have HSt := Lib.hid (run_storeVar_row (P := Tryz.prog) _ w.heap.size 37 37 zHead #[.int .i64 0, .string (t14 ++ ⟨#[47]⟩ ++ t0), .string t8, .int .i64 M, .int .i64 U, .int .i64 G, .int .i64 T, .string t10, .string t11, .string ⟨#[]⟩, .string fl, .int .i64 Z] S7.out.1 (by rw [Tryz.sizeHd]; rfl) rfl (by simp [Value.oneCell']))
          go_wp2_with (first
            | ((with_reducible refine wpList_load_eq rfl 37 _ rfl ⟨w.heap.size + 1, 0, none⟩ ?_ HLd.out ?_); rfl)
            | ((with_reducible refine wpList_store_eq rfl 37 _ _ rfl ⟨w.heap.size, 0, none⟩ ?_ ?_ HSt.out ?_); rfl; rfl))
          refine bodyPost_ret (results_cell2 rfl _ _ w.heap.size _ #[.int .i64 0, .string (t14 ++ ⟨#[47]⟩ ++ t0), .string t8, .int .i64 M, .int .i64 U, .int .i64 G, .int .i64 T, .string t10, .string t11, .string ⟨#[]⟩, .string fl, .int .i64 Z] (0, 0) _ rfl (setRow_heap _ _ _ _ _ _ S7.out.1) Tryz.underlying37 rfl (by rw [Tryz.sizeHd]; rfl)) rfl ?_
          rw [HE.out, ← HPP.out]
          exact ⟨rfl, S7.out.2.2.trans (below_set (Nat.le_refl _) _)⟩
      · have HE := Lib.hid (head_badG (l := l) (ok := ok) (val := val) (by rw [headOkG, KZ.out]; simp [hz]))
        have HSt := Lib.hid (run_storeVar_row (P := Tryz.prog) wr w.heap.size 37 37 zHead zHead RO.out (by rw [Tryz.sizeHd]; rfl) rfl (by simp [zHead, Value.oneCell']))
        clear HBad OK KM KU KG KZ KT KF
        go_wp2_with ((with_reducible refine wpList_store_eq rfl 37 _ _ rfl ⟨w.heap.size, 0, none⟩ ?_ ?_ HSt.out ?_); rfl; rfl)
        refine bodyPost_ret (results_cell2 rfl _ _ w.heap.size _ zHead (0, 0) _ rfl (setRow_heap _ _ _ _ _ _ RO.out) Tryz.underlying37 rfl (by rw [Tryz.sizeHd]; rfl)) rfl ?_
        rw [HE.out]
        exact ⟨rfl, B.out.trans (below_set (Nat.le_refl _) _)⟩
    · rcases (show i = 0 ∨ i = 1 ∨ i = 2 ∨ i = 3 ∨ i = 4 by omega) with rfl | rfl | rfl | rfl | rfl
      · have HN := Lib.hid (fun w hTb hF hB => HNum.out 1 8 (by omega) (by omega) rfl w hTb hF hB)
        rw [KM.out] at HN
        have hI : ∀ W, (Instr.index 162 (.agg #[.int .i64 1, .pointer (some ⟨w.heap.size + 1, 3, none⟩), .int .i64 2, .pointer (some ⟨w.heap.size + 1, 4, none⟩), .int .i64 3, .pointer (some ⟨w.heap.size + 1, 5, none⟩), .int .i64 4, .pointer (some ⟨w.heap.size + 1, 11, none⟩), .int .i64 5, .pointer (some ⟨w.heap.size + 1, 6, none⟩)]) (.int .i64 0)).run Tryz.prog W = .ok (.agg #[.int .i64 1, .pointer (some ⟨w.heap.size + 1, 3, none⟩)]) W := fun W => by kernel_rfl
        obtain ⟨bx, hbx⟩ : ∃ bx, bx = Obj.cells #[.int .i64 1, .pointer (some ⟨w.heap.size + 1, 3, none⟩)] 161 := ⟨_, rfl⟩
        have BX := (Below.refl wr.heap.size wr).alloc (Nat.le_refl _) bx
        have FX := Lib.hid ((HF.out.below B.out).below BX)
        have TX := Lib.hid ((HTb.out.below B.out).below BX)
        have KX := Lib.hid ((HB.out.below B.out zg).below BX (Nat.lt_of_lt_of_le zg B.out.size))
        have HX := Lib.hid ((BX.block _ lH).trans HO.out)
        have RX := Lib.hid ((BX.block w.heap.size (by omega)).trans RO.out)
        have B1 := Lib.hid (B.out.trans (BX.mono B.out.size))
        have QX : Hid ((wr.alloc bx).heap[wr.heap.size]? = some bx) := Lib.hid (heap_alloc_last _ _)
        subst hbx
        cases ho : ok 1 with
        | true =>
          rw [ho] at HN
          simp only [if_true] at HN
          have HK : Hid (ok5G ok 1 = true) := Lib.hid (by rw [ok5G, OK.out, ho]; rfl)
          clear ho BX HBad KM KU KG KZ KT KF
          go_wp2_with fail
          refine (HN.out _ TX.out FX.out KX.out).mono ?_
          rintro e w2 ⟨rfl, hb⟩
          have HX2 := Lib.hid ((hb.block _ (obj_lt HX.out)).trans HX.out)
          have RX2 := Lib.hid ((hb.block _ (obj_lt RX.out)).trans RX.out)
          have QX2 := Lib.hid ((hb.block _ (obj_lt QX.out)).trans QX.out)
          have B2 := Lib.hid (B1.out.trans (hb.mono B1.out.size))
          clear hb HX RX QX B1 TX FX KX B RO HO
          have cX : w2.cell? ⟨w.heap.size + 1, 3, none⟩ = some (.int .i64 0) := by rw [cell_of_row _ _ _ _ _ _ HX2.out]; rfl
          have fX : w2.frozen? ⟨w.heap.size + 1, 3, none⟩ = false := obj_frozen HX2.out
          have cQ : w2.cell? ⟨wr.heap.size, 1, none⟩ = some (.pointer (some ⟨w.heap.size + 1, 3, none⟩)) := by rw [cell_of_row _ _ _ _ _ _ QX2.out]; rfl
          have HRN := Lib.hid (set_new (cs' := hcl fl M U G Z T 1) 3 (.int .i64 M) RX2.out HX2.out B2.out rfl)
          go_wp2_with fail
          go_roundw
          case rel => exact ⟨1, by go_num, by omega, HK.out, HRN.out.1, HRN.out.2.1, HRN.out.2.2⟩
          case measure => simp [intOf]
        | false =>
          have HE := Lib.hid (HBad.out 0 (by omega) ho)
          rw [ho] at HN
          simp only [Bool.false_eq_true, if_false] at HN
          clear ho BX HBad KM KU KG KZ KT KF
          go_wp2_with fail
          refine (HN.out _ TX.out FX.out KX.out).mono ?_
          rintro e w2 ⟨rfl, hb⟩
          have RX2 := Lib.hid ((hb.block _ (obj_lt RX.out)).trans RX.out)
          have B2 := Lib.hid (B1.out.trans (hb.mono B1.out.size))
          have HSt := Lib.hid (run_storeVar_row (P := Tryz.prog) w2 w.heap.size 37 37 zHead zHead RX2.out (by rw [Tryz.sizeHd]; rfl) rfl (by simp [zHead, Value.oneCell']))
          clear hb HX RX QX B1 TX FX KX B RO HO
          go_wp2_with ((with_reducible refine wpList_store_eq rfl 37 _ _ rfl ⟨w.heap.size, 0, none⟩ ?_ ?_ HSt.out ?_); rfl; rfl)
          refine bodyPost_ret (results_cell2 rfl _ _ w.heap.size _ zHead (0, 0) _ rfl (setRow_heap _ _ _ _ _ _ RX2.out) Tryz.underlying37 rfl (by rw [Tryz.sizeHd]; rfl)) rfl ?_
          rw [HE.out]
          exact ⟨rfl, B2.out.trans (below_set (Nat.le_refl _) _)⟩
      · have HN := Lib.hid (fun w hTb hF hB => HNum.out 2 8 (by omega) (by omega) rfl w hTb hF hB)
        rw [KU.out] at HN
        have hI : ∀ W, (Instr.index 162 (.agg #[.int .i64 1, .pointer (some ⟨w.heap.size + 1, 3, none⟩), .int .i64 2, .pointer (some ⟨w.heap.size + 1, 4, none⟩), .int .i64 3, .pointer (some ⟨w.heap.size + 1, 5, none⟩), .int .i64 4, .pointer (some ⟨w.heap.size + 1, 11, none⟩), .int .i64 5, .pointer (some ⟨w.heap.size + 1, 6, none⟩)]) (.int .i64 1)).run Tryz.prog W = .ok (.agg #[.int .i64 2, .pointer (some ⟨w.heap.size + 1, 4, none⟩)]) W := fun W => by kernel_rfl
        obtain ⟨bx, hbx⟩ : ∃ bx, bx = Obj.cells #[.int .i64 2, .pointer (some ⟨w.heap.size + 1, 4, none⟩)] 161 := ⟨_, rfl⟩
        have BX := (Below.refl wr.heap.size wr).alloc (Nat.le_refl _) bx
        have FX := Lib.hid ((HF.out.below B.out).below BX)
        have TX := Lib.hid ((HTb.out.below B.out).below BX)
        have KX := Lib.hid ((HB.out.below B.out zg).below BX (Nat.lt_of_lt_of_le zg B.out.size))
        have HX := Lib.hid ((BX.block _ lH).trans HO.out)
        have RX := Lib.hid ((BX.block w.heap.size (by omega)).trans RO.out)
        have B1 := Lib.hid (B.out.trans (BX.mono B.out.size))
        have QX : Hid ((wr.alloc bx).heap[wr.heap.size]? = some bx) := Lib.hid (heap_alloc_last _ _)
        subst hbx
        cases ho : ok 2 with
        | true =>
          rw [ho] at HN
          simp only [if_true] at HN
          have HK : Hid (ok5G ok 2 = true) := Lib.hid (by rw [ok5G, OK.out, ho]; rfl)
          clear ho BX HBad KM KU KG KZ KT KF
          go_wp2_with fail
          refine (HN.out _ TX.out FX.out KX.out).mono ?_
          rintro e w2 ⟨rfl, hb⟩
          have HX2 := Lib.hid ((hb.block _ (obj_lt HX.out)).trans HX.out)
          have RX2 := Lib.hid ((hb.block _ (obj_lt RX.out)).trans RX.out)
          have QX2 := Lib.hid ((hb.block _ (obj_lt QX.out)).trans QX.out)
          have B2 := Lib.hid (B1.out.trans (hb.mono B1.out.size))
          clear hb HX RX QX B1 TX FX KX B RO HO
          have cX : w2.cell? ⟨w.heap.size + 1, 4, none⟩ = some (.int .i64 0) := by rw [cell_of_row _ _ _ _ _ _ HX2.out]; rfl
          have fX : w2.frozen? ⟨w.heap.size + 1, 4, none⟩ = false := obj_frozen HX2.out
          have cQ : w2.cell? ⟨wr.heap.size, 1, none⟩ = some (.pointer (some ⟨w.heap.size + 1, 4, none⟩)) := by rw [cell_of_row _ _ _ _ _ _ QX2.out]; rfl
          have HRN := Lib.hid (set_new (cs' := hcl fl M U G Z T 2) 4 (.int .i64 U) RX2.out HX2.out B2.out rfl)
          go_wp2_with fail
          go_roundw
          case rel => exact ⟨2, by go_num, by omega, HK.out, HRN.out.1, HRN.out.2.1, HRN.out.2.2⟩
          case measure => simp [intOf]
        | false =>
          have HE := Lib.hid (HBad.out 1 (by omega) ho)
          rw [ho] at HN
          simp only [Bool.false_eq_true, if_false] at HN
          clear ho BX HBad KM KU KG KZ KT KF
          go_wp2_with fail
          refine (HN.out _ TX.out FX.out KX.out).mono ?_
          rintro e w2 ⟨rfl, hb⟩
          have RX2 := Lib.hid ((hb.block _ (obj_lt RX.out)).trans RX.out)
          have B2 := Lib.hid (B1.out.trans (hb.mono B1.out.size))
          have HSt := Lib.hid (run_storeVar_row (P := Tryz.prog) w2 w.heap.size 37 37 zHead zHead RX2.out (by rw [Tryz.sizeHd]; rfl) rfl (by simp [zHead, Value.oneCell']))
          clear hb HX RX QX B1 TX FX KX B RO HO
          go_wp2_with ((with_reducible refine wpList_store_eq rfl 37 _ _ rfl ⟨w.heap.size, 0, none⟩ ?_ ?_ HSt.out ?_); rfl; rfl)
          refine bodyPost_ret (results_cell2 rfl _ _ w.heap.size _ zHead (0, 0) _ rfl (setRow_heap _ _ _ _ _ _ RX2.out) Tryz.underlying37 rfl (by rw [Tryz.sizeHd]; rfl)) rfl ?_
          rw [HE.out]
          exact ⟨rfl, B2.out.trans (below_set (Nat.le_refl _) _)⟩
      · have HN := Lib.hid (fun w hTb hF hB => HNum.out 3 8 (by omega) (by omega) rfl w hTb hF hB)
        rw [KG.out] at HN
        have hI : ∀ W, (Instr.index 162 (.agg #[.int .i64 1, .pointer (some ⟨w.heap.size + 1, 3, none⟩), .int .i64 2, .pointer (some ⟨w.heap.size + 1, 4, none⟩), .int .i64 3, .pointer (some ⟨w.heap.size + 1, 5, none⟩), .int .i64 4, .pointer (some ⟨w.heap.size + 1, 11, none⟩), .int .i64 5, .pointer (some ⟨w.heap.size + 1, 6, none⟩)]) (.int .i64 2)).run Tryz.prog W = .ok (.agg #[.int .i64 3, .pointer (some ⟨w.heap.size + 1, 5, none⟩)]) W := fun W => by kernel_rfl
        obtain ⟨bx, hbx⟩ : ∃ bx, bx = Obj.cells #[.int .i64 3, .pointer (some ⟨w.heap.size + 1, 5, none⟩)] 161 := ⟨_, rfl⟩
        have BX := (Below.refl wr.heap.size wr).alloc (Nat.le_refl _) bx
        have FX := Lib.hid ((HF.out.below B.out).below BX)
        have TX := Lib.hid ((HTb.out.below B.out).below BX)
        have KX := Lib.hid ((HB.out.below B.out zg).below BX (Nat.lt_of_lt_of_le zg B.out.size))
        have HX := Lib.hid ((BX.block _ lH).trans HO.out)
        have RX := Lib.hid ((BX.block w.heap.size (by omega)).trans RO.out)
        have B1 := Lib.hid (B.out.trans (BX.mono B.out.size))
        have QX : Hid ((wr.alloc bx).heap[wr.heap.size]? = some bx) := Lib.hid (heap_alloc_last _ _)
        subst hbx
        cases ho : ok 3 with
        | true =>
          rw [ho] at HN
          simp only [if_true] at HN
          have HK : Hid (ok5G ok 3 = true) := Lib.hid (by rw [ok5G, OK.out, ho]; rfl)
          clear ho BX HBad KM KU KG KZ KT KF
          go_wp2_with fail
          refine (HN.out _ TX.out FX.out KX.out).mono ?_
          rintro e w2 ⟨rfl, hb⟩
          have HX2 := Lib.hid ((hb.block _ (obj_lt HX.out)).trans HX.out)
          have RX2 := Lib.hid ((hb.block _ (obj_lt RX.out)).trans RX.out)
          have QX2 := Lib.hid ((hb.block _ (obj_lt QX.out)).trans QX.out)
          have B2 := Lib.hid (B1.out.trans (hb.mono B1.out.size))
          clear hb HX RX QX B1 TX FX KX B RO HO
          have cX : w2.cell? ⟨w.heap.size + 1, 5, none⟩ = some (.int .i64 0) := by rw [cell_of_row _ _ _ _ _ _ HX2.out]; rfl
          have fX : w2.frozen? ⟨w.heap.size + 1, 5, none⟩ = false := obj_frozen HX2.out
          have cQ : w2.cell? ⟨wr.heap.size, 1, none⟩ = some (.pointer (some ⟨w.heap.size + 1, 5, none⟩)) := by rw [cell_of_row _ _ _ _ _ _ QX2.out]; rfl
          have HRN := Lib.hid (set_new (cs' := hcl fl M U G Z T 3) 5 (.int .i64 G) RX2.out HX2.out B2.out rfl)
          go_wp2_with fail
          go_roundw
          case rel => exact ⟨3, by go_num, by omega, HK.out, HRN.out.1, HRN.out.2.1, HRN.out.2.2⟩
          case measure => simp [intOf]
        | false =>
          have HE := Lib.hid (HBad.out 2 (by omega) ho)
          rw [ho] at HN
          simp only [Bool.false_eq_true, if_false] at HN
          clear ho BX HBad KM KU KG KZ KT KF
          go_wp2_with fail
          refine (HN.out _ TX.out FX.out KX.out).mono ?_
          rintro e w2 ⟨rfl, hb⟩
          have RX2 := Lib.hid ((hb.block _ (obj_lt RX.out)).trans RX.out)
          have B2 := Lib.hid (B1.out.trans (hb.mono B1.out.size))
          have HSt := Lib.hid (run_storeVar_row (P := Tryz.prog) w2 w.heap.size 37 37 zHead zHead RX2.out (by rw [Tryz.sizeHd]; rfl) rfl (by simp [zHead, Value.oneCell']))
          clear hb HX RX QX B1 TX FX KX B RO HO
          go_wp2_with ((with_reducible refine wpList_store_eq rfl 37 _ _ rfl ⟨w.heap.size, 0, none⟩ ?_ ?_ HSt.out ?_); rfl; rfl)
          refine bodyPost_ret (results_cell2 rfl _ _ w.heap.size _ zHead (0, 0) _ rfl (setRow_heap _ _ _ _ _ _ RX2.out) Tryz.underlying37 rfl (by rw [Tryz.sizeHd]; rfl)) rfl ?_
          rw [HE.out]
          exact ⟨rfl, B2.out.trans (below_set (Nat.le_refl _) _)⟩
      · have HN := Lib.hid (fun w hTb hF hB => HNum.out 4 12 (by omega) (by omega) rfl w hTb hF hB)
        rw [KZ.out] at HN
        have hI : ∀ W, (Instr.index 162 (.agg #[.int .i64 1, .pointer (some ⟨w.heap.size + 1, 3, none⟩), .int .i64 2, .pointer (some ⟨w.heap.size + 1, 4, none⟩), .int .i64 3, .pointer (some ⟨w.heap.size + 1, 5, none⟩), .int .i64 4, .pointer (some ⟨w.heap.size + 1, 11, none⟩), .int .i64 5, .pointer (some ⟨w.heap.size + 1, 6, none⟩)]) (.int .i64 3)).run Tryz.prog W = .ok (.agg #[.int .i64 4, .pointer (some ⟨w.heap.size + 1, 11, none⟩)]) W := fun W => by kernel_rfl
        obtain ⟨bx, hbx⟩ : ∃ bx, bx = Obj.cells #[.int .i64 4, .pointer (some ⟨w.heap.size + 1, 11, none⟩)] 161 := ⟨_, rfl⟩
        have BX := (Below.refl wr.heap.size wr).alloc (Nat.le_refl _) bx
        have FX := Lib.hid ((HF.out.below B.out).below BX)
        have TX := Lib.hid ((HTb.out.below B.out).below BX)
        have KX := Lib.hid ((HB.out.below B.out zg).below BX (Nat.lt_of_lt_of_le zg B.out.size))
        have HX := Lib.hid ((BX.block _ lH).trans HO.out)
        have RX := Lib.hid ((BX.block w.heap.size (by omega)).trans RO.out)
        have B1 := Lib.hid (B.out.trans (BX.mono B.out.size))
        have QX : Hid ((wr.alloc bx).heap[wr.heap.size]? = some bx) := Lib.hid (heap_alloc_last _ _)
        subst hbx
        cases ho : ok 4 with
        | true =>
          rw [ho] at HN
          simp only [if_true] at HN
          have HK : Hid (ok5G ok 4 = true) := Lib.hid (by rw [ok5G, OK.out, ho]; rfl)
          clear ho BX HBad KM KU KG KZ KT KF
          go_wp2_with fail
          refine (HN.out _ TX.out FX.out KX.out).mono ?_
          rintro e w2 ⟨rfl, hb⟩
          have HX2 := Lib.hid ((hb.block _ (obj_lt HX.out)).trans HX.out)
          have RX2 := Lib.hid ((hb.block _ (obj_lt RX.out)).trans RX.out)
          have QX2 := Lib.hid ((hb.block _ (obj_lt QX.out)).trans QX.out)
          have B2 := Lib.hid (B1.out.trans (hb.mono B1.out.size))
          clear hb HX RX QX B1 TX FX KX B RO HO
          have cX : w2.cell? ⟨w.heap.size + 1, 11, none⟩ = some (.int .i64 0) := by rw [cell_of_row _ _ _ _ _ _ HX2.out]; rfl
          have fX : w2.frozen? ⟨w.heap.size + 1, 11, none⟩ = false := obj_frozen HX2.out
          have cQ : w2.cell? ⟨wr.heap.size, 1, none⟩ = some (.pointer (some ⟨w.heap.size + 1, 11, none⟩)) := by rw [cell_of_row _ _ _ _ _ _ QX2.out]; rfl
          have HRN := Lib.hid (set_new (cs' := hcl fl M U G Z T 4) 11 (.int .i64 Z) RX2.out HX2.out B2.out rfl)
          go_wp2_with fail
          go_roundw
          case rel => exact ⟨4, by go_num, by omega, HK.out, HRN.out.1, HRN.out.2.1, HRN.out.2.2⟩
          case measure => simp [intOf]
        | false =>
          have HE := Lib.hid (HBad.out 3 (by omega) ho)
          rw [ho] at HN
          simp only [Bool.false_eq_true, if_false] at HN
          clear ho BX HBad KM KU KG KZ KT KF
          go_wp2_with fail
          refine (HN.out _ TX.out FX.out KX.out).mono ?_
          rintro e w2 ⟨rfl, hb⟩
          have RX2 := Lib.hid ((hb.block _ (obj_lt RX.out)).trans RX.out)
          have B2 := Lib.hid (B1.out.trans (hb.mono B1.out.size))
          have HSt := Lib.hid (run_storeVar_row (P := Tryz.prog) w2 w.heap.size 37 37 zHead zHead RX2.out (by rw [Tryz.sizeHd]; rfl) rfl (by simp [zHead, Value.oneCell']))
          clear hb HX RX QX B1 TX FX KX B RO HO
          go_wp2_with ((with_reducible refine wpList_store_eq rfl 37 _ _ rfl ⟨w.heap.size, 0, none⟩ ?_ ?_ HSt.out ?_); rfl; rfl)
          refine bodyPost_ret (results_cell2 rfl _ _ w.heap.size _ zHead (0, 0) _ rfl (setRow_heap _ _ _ _ _ _ RX2.out) Tryz.underlying37 rfl (by rw [Tryz.sizeHd]; rfl)) rfl ?_
          rw [HE.out]
          exact ⟨rfl, B2.out.trans (below_set (Nat.le_refl _) _)⟩
      · have HN := Lib.hid (fun w hTb hF hB => HNum.out 5 12 (by omega) (by omega) rfl w hTb hF hB)
        rw [KT.out] at HN
        have hI : ∀ W, (Instr.index 162 (.agg #[.int .i64 1, .pointer (some ⟨w.heap.size + 1, 3, none⟩), .int .i64 2, .pointer (some ⟨w.heap.size + 1, 4, none⟩), .int .i64 3, .pointer (some ⟨w.heap.size + 1, 5, none⟩), .int .i64 4, .pointer (some ⟨w.heap.size + 1, 11, none⟩), .int .i64 5, .pointer (some ⟨w.heap.size + 1, 6, none⟩)]) (.int .i64 4)).run Tryz.prog W = .ok (.agg #[.int .i64 5, .pointer (some ⟨w.heap.size + 1, 6, none⟩)]) W := fun W => by kernel_rfl
        obtain ⟨bx, hbx⟩ : ∃ bx, bx = Obj.cells #[.int .i64 5, .pointer (some ⟨w.heap.size + 1, 6, none⟩)] 161 := ⟨_, rfl⟩
        have BX := (Below.refl wr.heap.size wr).alloc (Nat.le_refl _) bx
        have FX := Lib.hid ((HF.out.below B.out).below BX)
        have TX := Lib.hid ((HTb.out.below B.out).below BX)
        have KX := Lib.hid ((HB.out.below B.out zg).below BX (Nat.lt_of_lt_of_le zg B.out.size))
        have HX := Lib.hid ((BX.block _ lH).trans HO.out)
        have RX := Lib.hid ((BX.block w.heap.size (by omega)).trans RO.out)
        have B1 := Lib.hid (B.out.trans (BX.mono B.out.size))
        have QX : Hid ((wr.alloc bx).heap[wr.heap.size]? = some bx) := Lib.hid (heap_alloc_last _ _)
        subst hbx
        cases ho : ok 5 with
        | true =>
          rw [ho] at HN
          simp only [if_true] at HN
          have HK : Hid (ok5G ok 5 = true) := Lib.hid (by rw [ok5G, OK.out, ho]; rfl)
          clear ho BX HBad KM KU KG KZ KT KF
          go_wp2_with fail
          refine (HN.out _ TX.out FX.out KX.out).mono ?_
          rintro e w2 ⟨rfl, hb⟩
          have HX2 := Lib.hid ((hb.block _ (obj_lt HX.out)).trans HX.out)
          have RX2 := Lib.hid ((hb.block _ (obj_lt RX.out)).trans RX.out)
          have QX2 := Lib.hid ((hb.block _ (obj_lt QX.out)).trans QX.out)
          have B2 := Lib.hid (B1.out.trans (hb.mono B1.out.size))
          clear hb HX RX QX B1 TX FX KX B RO HO
          have cX : w2.cell? ⟨w.heap.size + 1, 6, none⟩ = some (.int .i64 0) := by rw [cell_of_row _ _ _ _ _ _ HX2.out]; rfl
          have fX : w2.frozen? ⟨w.heap.size + 1, 6, none⟩ = false := obj_frozen HX2.out
          have cQ : w2.cell? ⟨wr.heap.size, 1, none⟩ = some (.pointer (some ⟨w.heap.size + 1, 6, none⟩)) := by rw [cell_of_row _ _ _ _ _ _ QX2.out]; rfl
          have HRN := Lib.hid (set_new (cs' := hcl fl M U G Z T 5) 6 (.int .i64 T) RX2.out HX2.out B2.out rfl)
          go_wp2_with fail
          go_roundw
          case rel => exact ⟨5, by go_num, by omega, HK.out, HRN.out.1, HRN.out.2.1, HRN.out.2.2⟩
          case measure => simp [intOf]
        | false =>
          have HE := Lib.hid (HBad.out 4 (by omega) ho)
          rw [ho] at HN
          simp only [Bool.false_eq_true, if_false] at HN
          clear ho BX HBad KM KU KG KZ KT KF
          go_wp2_with fail
          refine (HN.out _ TX.out FX.out KX.out).mono ?_
          rintro e w2 ⟨rfl, hb⟩
          have RX2 := Lib.hid ((hb.block _ (obj_lt RX.out)).trans RX.out)
          have B2 := Lib.hid (B1.out.trans (hb.mono B1.out.size))
          have HSt := Lib.hid (run_storeVar_row (P := Tryz.prog) w2 w.heap.size 37 37 zHead zHead RX2.out (by rw [Tryz.sizeHd]; rfl) rfl (by simp [zHead, Value.oneCell']))
          clear hb HX RX QX B1 TX FX KX B RO HO
          go_wp2_with ((with_reducible refine wpList_store_eq rfl 37 _ _ rfl ⟨w.heap.size, 0, none⟩ ?_ ?_ HSt.out ?_); rfl; rfl)
          refine bodyPost_ret (results_cell2 rfl _ _ w.heap.size _ zHead (0, 0) _ rfl (setRow_heap _ _ _ _ _ _ RX2.out) Tryz.underlying37 rfl (by rw [Tryz.sizeHd]; rfl)) rfl ?_
          rw [HE.out]
          exact ⟨rfl, B2.out.trans (below_set (Nat.le_refl _) _)⟩
end Go.Proofs.YtgpgkgahbkmdiabGreatDoor

/- Contract of impl.block's method longNumber. -/
namespace Go.Proofs.YtgpgkgahbkmdiabGreatDoor
open Go.ChangeShapes Go.WideShapes Go.ChangeAt Go.RowKit

/-- Whether a field's number stands in binary, as it must. -/
def binv (l : List UInt8) (k : Nat) : Bool := (decide (k = 2) || decide (k = 3) || decide (k = 5)) && ((bigv (fW l k)).2 && !(putOctv (bigv (fW l k)).1 ((widths.getD k 0 : Nat) - 1)).2)
def lokv (l : List UInt8) (k : Nat) : Bool := binv l k || fnumOk (fW l k)
def lvalv (l : List UInt8) (k : Nat) : Int := if binv l k = true then (bigv (fW l k)).1 else fnumv (fW l k)
theorem longNum_oct (g k x : Nat) (l : List UInt8) (w : World) (hk : k = 1 ∨ k = 4) (hx : widths[k]? = some x) (hF : FW w) (hB : Blk w g l) :
    Calls Tryz.prog 69 #[.pointer (some ⟨g, 0, none⟩), .int .i64 k] w fun e w' => e = .returned (if lokv l k = true then .tuple #[.int .i64 (lvalv l k), .nilIface] else .tuple #[.int .i64 0, .iface 81 (.agg #[.int .i64 3])]) ∧ Below w.heap.size w w' := by
  have hbn : binv l k = false := by rcases hk with rfl | rfl <;> rfl
  have hfw : fieldv l k x = fW l k := by rw [fW, List.getD, hx]; rfl
  have H := Lib.hid (fun w hF hB => number_any g k x l w (by omega) hx hF hB)
  rw [hfw] at H
  simp only [lokv, lvalv, hbn, Bool.false_or, Bool.false_eq_true, if_false]
  have HF := Lib.hid hF
  have HB := Lib.hid hB
  generalize fnumOk (fW l k) = ov at *
  generalize fnumv (fW l k) = nv at *
  clear hbn hfw hF hB hx
  rcases hk with rfl | rfl
  all_goals
    cases ov with
    | true =>
      simp only [if_true] at H ⊢
      go_enter Tryz.func69, Tryz.ntmps69
      go_wp2_with fail
      refine (H.out _ HF.out HB.out).mono ?_
      rintro e w1 ⟨rfl, rfl⟩
      go_wp2
      go_ret2
      exact ⟨rfl, Below.refl _ _⟩
    | false =>
      simp only [Bool.false_eq_true, if_false] at H ⊢
      go_enter Tryz.func69, Tryz.ntmps69
      go_wp2_with fail
      refine (H.out _ HF.out HB.out).mono ?_
      rintro e w1 ⟨rfl, rfl⟩
      go_wp2
      go_ret2
      exact ⟨rfl, Below.refl _ _⟩
set_option maxHeartbeats 1600000 in
theorem longNum_2 (g : Nat) (l : List UInt8) (w : World) (hT : Tabs w) (hF : FW w) (hB : Blk w g l) :
    Calls Tryz.prog 69 #[.pointer (some ⟨g, 0, none⟩), .int .i64 2] w fun e w' => e = .returned (if lokv l 2 = true then .tuple #[.int .i64 (lvalv l 2), .nilIface] else .tuple #[.int .i64 0, .iface 81 (.agg #[.int .i64 3])]) ∧ Below w.heap.size w w' := by
  have hbn : binv l 2 = ((bigv (fW l 2)).2 && !(putOctv (bigv (fW l 2)).1 7).2) := rfl
  have H := Lib.hid (fun w hF hB => number_any g 2 8 l w (by omega) rfl hF hB)
  rw [show fieldv l 2 8 = fW l 2 from rfl] at H
  have H1 := Lib.hid (field_any g 2 8 w (by omega) rfl hF)
  have hc := hB.convAt (offs 2) 8 (by decide)
  rw [show (⟨((l.drop (offs 2)).take 8).toArray⟩ : ByteArray) = fW l 2 from rfl] at hc
  rw [show offs 2 = 108 from rfl] at hc H1
  have hz : (fW l 2).size ≤ 155 := by
    rw [fW, fieldv, ba_size]
    exact Nat.le_trans (List.length_take_le _ _) (by decide)
  have H2 := Lib.hid (fun w => getBig_impl (fW l 2) w (by omega))
  have hcw := hF 2 8 rfl
  rw [lokv, lvalv, hbn]
  have H3 := Lib.hid (fun w h => putOct_impl (bigv (fW l 2)).1 7 w h)
  have HF := Lib.hid hF
  have HB := Lib.hid hB
  have HT := Lib.hid hT
  generalize fnumOk (fW l 2) = ov at *
  generalize fnumv (fW l 2) = nv at *
  generalize bigv (fW l 2) = bp at *
  generalize fW l 2 = f at *
  obtain ⟨bn, bo⟩ := bp
  simp only at H2 H3 ⊢
  generalize putOctv bn 7 = op at *
  obtain ⟨os, oo⟩ := op
  simp only at H3 ⊢
  clear hF hB hT hbn
  by_cases hbin : bo = true ∧ oo = false
  · obtain ⟨rfl, rfl⟩ := hbin
    simp only [Bool.not_false, Bool.and_true, Bool.true_or, if_true]
    go_enter Tryz.func69, Tryz.ntmps69
    go_wp2_with fail
    refine H1.out.mono ?_
    rintro e w1 ⟨rfl, rfl⟩
    go_wp2_with fail
    refine (H2.out _).mono ?_
    rintro e w2 ⟨rfl, rfl⟩
    go_wp2_with fail
    refine (H3.out _ HT.out).mono ?_
    rintro e w3 ⟨rfl, hb⟩
    have B3 := Lib.hid hb
    have F3 := Lib.hid (HF.out.below hb)
    have K3 := Lib.hid (HB.out.below hb HB.out.lt)
    clear hb hc hcw
    go_wp2
    go_ret2
    exact ⟨rfl, B3.out⟩
  · have hgo : bo = false ∨ (bo = true ∧ oo = true) := by
      cases bo <;> cases oo <;> simp_all
    clear hbin
    rcases hgo with rfl | ⟨rfl, rfl⟩
    all_goals
      simp only [Bool.false_and, Bool.not_true, Bool.and_false, Bool.false_or, Bool.false_eq_true, if_false]
      cases ov with
      | true =>
        simp only [if_true] at H ⊢
        go_enter Tryz.func69, Tryz.ntmps69
        go_wp2_with fail
        refine H1.out.mono ?_
        rintro e w1 ⟨rfl, rfl⟩
        go_wp2_with fail
        refine (H2.out _).mono ?_
        rintro e w2 ⟨rfl, rfl⟩
        go_wp2_with fail
        refine (H3.out _ HT.out).mono ?_
        rintro e w3 ⟨rfl, hb⟩
        have B3 := Lib.hid hb
        have F3 := Lib.hid (HF.out.below hb)
        have K3 := Lib.hid (HB.out.below hb HB.out.lt)
        clear hb hc hcw
        go_wp2_with fail
        refine (H.out _ F3.out K3.out).mono ?_
        rintro e w4 ⟨rfl, rfl⟩
        go_wp2
        go_ret2
        exact ⟨rfl, B3.out⟩
      | false =>
        simp only [Bool.false_eq_true, if_false] at H ⊢
        go_enter Tryz.func69, Tryz.ntmps69
        go_wp2_with fail
        refine H1.out.mono ?_
        rintro e w1 ⟨rfl, rfl⟩
        go_wp2_with fail
        refine (H2.out _).mono ?_
        rintro e w2 ⟨rfl, rfl⟩
        go_wp2_with fail
        refine (H3.out _ HT.out).mono ?_
        rintro e w3 ⟨rfl, hb⟩
        have B3 := Lib.hid hb
        have F3 := Lib.hid (HF.out.below hb)
        have K3 := Lib.hid (HB.out.below hb HB.out.lt)
        clear hb hc hcw
        go_wp2_with fail
        refine (H.out _ F3.out K3.out).mono ?_
        rintro e w4 ⟨rfl, rfl⟩
        go_wp2
        go_ret2
        exact ⟨rfl, B3.out⟩
set_option maxHeartbeats 1600000 in
theorem longNum_3 (g : Nat) (l : List UInt8) (w : World) (hT : Tabs w) (hF : FW w) (hB : Blk w g l) :
    Calls Tryz.prog 69 #[.pointer (some ⟨g, 0, none⟩), .int .i64 3] w fun e w' => e = .returned (if lokv l 3 = true then .tuple #[.int .i64 (lvalv l 3), .nilIface] else .tuple #[.int .i64 0, .iface 81 (.agg #[.int .i64 3])]) ∧ Below w.heap.size w w' := by
  have hbn : binv l 3 = ((bigv (fW l 3)).2 && !(putOctv (bigv (fW l 3)).1 7).2) := rfl
  have H := Lib.hid (fun w hF hB => number_any g 3 8 l w (by omega) rfl hF hB)
  rw [show fieldv l 3 8 = fW l 3 from rfl] at H
  have H1 := Lib.hid (field_any g 3 8 w (by omega) rfl hF)
  have hc := hB.convAt (offs 3) 8 (by decide)
  rw [show (⟨((l.drop (offs 3)).take 8).toArray⟩ : ByteArray) = fW l 3 from rfl] at hc
  rw [show offs 3 = 116 from rfl] at hc H1
  have hz : (fW l 3).size ≤ 155 := by
    rw [fW, fieldv, ba_size]
    exact Nat.le_trans (List.length_take_le _ _) (by decide)
  have H2 := Lib.hid (fun w => getBig_impl (fW l 3) w (by omega))
  have hcw := hF 3 8 rfl
  rw [lokv, lvalv, hbn]
  have H3 := Lib.hid (fun w h => putOct_impl (bigv (fW l 3)).1 7 w h)
  have HF := Lib.hid hF
  have HB := Lib.hid hB
  have HT := Lib.hid hT
  generalize fnumOk (fW l 3) = ov at *
  generalize fnumv (fW l 3) = nv at *
  generalize bigv (fW l 3) = bp at *
  generalize fW l 3 = f at *
  obtain ⟨bn, bo⟩ := bp
  simp only at H2 H3 ⊢
  generalize putOctv bn 7 = op at *
  obtain ⟨os, oo⟩ := op
  simp only at H3 ⊢
  clear hF hB hT hbn
  by_cases hbin : bo = true ∧ oo = false
  · obtain ⟨rfl, rfl⟩ := hbin
    simp only [Bool.not_false, Bool.and_true, Bool.true_or, if_true]
    go_enter Tryz.func69, Tryz.ntmps69
    go_wp2_with fail
    refine H1.out.mono ?_
    rintro e w1 ⟨rfl, rfl⟩
    go_wp2_with fail
    refine (H2.out _).mono ?_
    rintro e w2 ⟨rfl, rfl⟩
    go_wp2_with fail
    refine (H3.out _ HT.out).mono ?_
    rintro e w3 ⟨rfl, hb⟩
    have B3 := Lib.hid hb
    have F3 := Lib.hid (HF.out.below hb)
    have K3 := Lib.hid (HB.out.below hb HB.out.lt)
    clear hb hc hcw
    go_wp2
    go_ret2
    exact ⟨rfl, B3.out⟩
  · have hgo : bo = false ∨ (bo = true ∧ oo = true) := by
      cases bo <;> cases oo <;> simp_all
    clear hbin
    rcases hgo with rfl | ⟨rfl, rfl⟩
    all_goals
      simp only [Bool.false_and, Bool.not_true, Bool.and_false, Bool.false_or, Bool.false_eq_true, if_false]
      cases ov with
      | true =>
        simp only [if_true] at H ⊢
        go_enter Tryz.func69, Tryz.ntmps69
        go_wp2_with fail
        refine H1.out.mono ?_
        rintro e w1 ⟨rfl, rfl⟩
        go_wp2_with fail
        refine (H2.out _).mono ?_
        rintro e w2 ⟨rfl, rfl⟩
        go_wp2_with fail
        refine (H3.out _ HT.out).mono ?_
        rintro e w3 ⟨rfl, hb⟩
        have B3 := Lib.hid hb
        have F3 := Lib.hid (HF.out.below hb)
        have K3 := Lib.hid (HB.out.below hb HB.out.lt)
        clear hb hc hcw
        go_wp2_with fail
        refine (H.out _ F3.out K3.out).mono ?_
        rintro e w4 ⟨rfl, rfl⟩
        go_wp2
        go_ret2
        exact ⟨rfl, B3.out⟩
      | false =>
        simp only [Bool.false_eq_true, if_false] at H ⊢
        go_enter Tryz.func69, Tryz.ntmps69
        go_wp2_with fail
        refine H1.out.mono ?_
        rintro e w1 ⟨rfl, rfl⟩
        go_wp2_with fail
        refine (H2.out _).mono ?_
        rintro e w2 ⟨rfl, rfl⟩
        go_wp2_with fail
        refine (H3.out _ HT.out).mono ?_
        rintro e w3 ⟨rfl, hb⟩
        have B3 := Lib.hid hb
        have F3 := Lib.hid (HF.out.below hb)
        have K3 := Lib.hid (HB.out.below hb HB.out.lt)
        clear hb hc hcw
        go_wp2_with fail
        refine (H.out _ F3.out K3.out).mono ?_
        rintro e w4 ⟨rfl, rfl⟩
        go_wp2
        go_ret2
        exact ⟨rfl, B3.out⟩
set_option maxHeartbeats 1600000 in
theorem longNum_5 (g : Nat) (l : List UInt8) (w : World) (hT : Tabs w) (hF : FW w) (hB : Blk w g l) :
    Calls Tryz.prog 69 #[.pointer (some ⟨g, 0, none⟩), .int .i64 5] w fun e w' => e = .returned (if lokv l 5 = true then .tuple #[.int .i64 (lvalv l 5), .nilIface] else .tuple #[.int .i64 0, .iface 81 (.agg #[.int .i64 3])]) ∧ Below w.heap.size w w' := by
  have hbn : binv l 5 = ((bigv (fW l 5)).2 && !(putOctv (bigv (fW l 5)).1 11).2) := rfl
  have H := Lib.hid (fun w hF hB => number_any g 5 12 l w (by omega) rfl hF hB)
  rw [show fieldv l 5 12 = fW l 5 from rfl] at H
  have H1 := Lib.hid (field_any g 5 12 w (by omega) rfl hF)
  have hc := hB.convAt (offs 5) 12 (by decide)
  rw [show (⟨((l.drop (offs 5)).take 12).toArray⟩ : ByteArray) = fW l 5 from rfl] at hc
  rw [show offs 5 = 136 from rfl] at hc H1
  have hz : (fW l 5).size ≤ 155 := by
    rw [fW, fieldv, ba_size]
    exact Nat.le_trans (List.length_take_le _ _) (by decide)
  have H2 := Lib.hid (fun w => getBig_impl (fW l 5) w (by omega))
  have hcw := hF 5 12 rfl
  rw [lokv, lvalv, hbn]
  have H3 := Lib.hid (fun w h => putOct_impl (bigv (fW l 5)).1 11 w h)
  have HF := Lib.hid hF
  have HB := Lib.hid hB
  have HT := Lib.hid hT
  generalize fnumOk (fW l 5) = ov at *
  generalize fnumv (fW l 5) = nv at *
  generalize bigv (fW l 5) = bp at *
  generalize fW l 5 = f at *
  obtain ⟨bn, bo⟩ := bp
  simp only at H2 H3 ⊢
  generalize putOctv bn 11 = op at *
  obtain ⟨os, oo⟩ := op
  simp only at H3 ⊢
  clear hF hB hT hbn
  by_cases hbin : bo = true ∧ oo = false
  · obtain ⟨rfl, rfl⟩ := hbin
    simp only [Bool.not_false, Bool.and_true, Bool.true_or, if_true]
    go_enter Tryz.func69, Tryz.ntmps69
    go_wp2_with fail
    refine H1.out.mono ?_
    rintro e w1 ⟨rfl, rfl⟩
    go_wp2_with fail
    refine (H2.out _).mono ?_
    rintro e w2 ⟨rfl, rfl⟩
    go_wp2_with fail
    refine (H3.out _ HT.out).mono ?_
    rintro e w3 ⟨rfl, hb⟩
    have B3 := Lib.hid hb
    have F3 := Lib.hid (HF.out.below hb)
    have K3 := Lib.hid (HB.out.below hb HB.out.lt)
    clear hb hc hcw
    go_wp2
    go_ret2
    exact ⟨rfl, B3.out⟩
  · have hgo : bo = false ∨ (bo = true ∧ oo = true) := by
      cases bo <;> cases oo <;> simp_all
    clear hbin
    rcases hgo with rfl | ⟨rfl, rfl⟩
    all_goals
      simp only [Bool.false_and, Bool.not_true, Bool.and_false, Bool.false_or, Bool.false_eq_true, if_false]
      cases ov with
      | true =>
        simp only [if_true] at H ⊢
        go_enter Tryz.func69, Tryz.ntmps69
        go_wp2_with fail
        refine H1.out.mono ?_
        rintro e w1 ⟨rfl, rfl⟩
        go_wp2_with fail
        refine (H2.out _).mono ?_
        rintro e w2 ⟨rfl, rfl⟩
        go_wp2_with fail
        refine (H3.out _ HT.out).mono ?_
        rintro e w3 ⟨rfl, hb⟩
        have B3 := Lib.hid hb
        have F3 := Lib.hid (HF.out.below hb)
        have K3 := Lib.hid (HB.out.below hb HB.out.lt)
        clear hb hc hcw
        go_wp2_with fail
        refine (H.out _ F3.out K3.out).mono ?_
        rintro e w4 ⟨rfl, rfl⟩
        go_wp2
        go_ret2
        exact ⟨rfl, B3.out⟩
      | false =>
        simp only [Bool.false_eq_true, if_false] at H ⊢
        go_enter Tryz.func69, Tryz.ntmps69
        go_wp2_with fail
        refine H1.out.mono ?_
        rintro e w1 ⟨rfl, rfl⟩
        go_wp2_with fail
        refine (H2.out _).mono ?_
        rintro e w2 ⟨rfl, rfl⟩
        go_wp2_with fail
        refine (H3.out _ HT.out).mono ?_
        rintro e w3 ⟨rfl, hb⟩
        have B3 := Lib.hid hb
        have F3 := Lib.hid (HF.out.below hb)
        have K3 := Lib.hid (HB.out.below hb HB.out.lt)
        clear hb hc hcw
        go_wp2_with fail
        refine (H.out _ F3.out K3.out).mono ?_
        rintro e w4 ⟨rfl, rfl⟩
        go_wp2
        go_ret2
        exact ⟨rfl, B3.out⟩
theorem longNum_any (g k x : Nat) (l : List UInt8) (w : World) (h1 : 1 ≤ k) (h5 : k ≤ 5) (hx : widths[k]? = some x) (hT : Tabs w) (hF : FW w) (hB : Blk w g l) :
    Calls Tryz.prog 69 #[.pointer (some ⟨g, 0, none⟩), .int .i64 k] w fun e w' => e = .returned (if lokv l k = true then .tuple #[.int .i64 (lvalv l k), .nilIface] else .tuple #[.int .i64 0, .iface 81 (.agg #[.int .i64 3])]) ∧ Below w.heap.size w w' := by
  rcases (show k = 1 ∨ k = 2 ∨ k = 3 ∨ k = 4 ∨ k = 5 by omega) with rfl | rfl | rfl | rfl | rfl
  · exact longNum_oct g 1 x l w (.inl rfl) hx hF hB
  · exact longNum_2 g l w hT hF hB
  · exact longNum_3 g l w hT hF hB
  · exact longNum_oct g 4 x l w (.inr rfl) hx hF hB
  · exact longNum_5 g l w hT hF hB
end Go.Proofs.YtgpgkgahbkmdiabGreatDoor

/- Contracts of spec.Pad, impl.Pad and the law laws.FnExactPad: what each returns for every argument, the world unchanged. -/
namespace Go.Proofs.YtgpgkgahbkmdiabGreatDoor
open Go.ChangeShapes Go.WideShapes Go.ChangeAt Go.RowKit

def padv (n u : Int) : Int := if 0 ≤ n ∧ n ≤ 9007199254740991 ∧ 1 ≤ u ∧ u ≤ 512 then (u - n % u) % u else 0

theorem pad_impl (n u : Int) (w : World) : Calls Tryz.prog 129 #[.int .i64 n, .int .i64 u] w fun e w' => e = .returned (.int .i64 (padv n u)) ∧ w = w' := by
  by_cases h1 : 0 ≤ n
  · by_cases h2 : n ≤ 9007199254740991
    · by_cases h3 : 1 ≤ u
      · by_cases h4 : u ≤ 512
        · have hm := Int.emod_nonneg n (show u ≠ 0 by omega)
          have hl := Int.emod_lt_of_pos n (show 0 < u by omega)
          go_enter Tryz.func129, Tryz.ntmps129
          go_wp2
          go_ret
          exact ⟨ret_int (by simp [padv, *]), rfl⟩
        · go_enter Tryz.func129, Tryz.ntmps129
          go_wp2
          go_ret
          exact ⟨ret_int (by simp [padv]; omega), rfl⟩
      · go_enter Tryz.func129, Tryz.ntmps129
        go_wp2
        go_ret
        exact ⟨ret_int (by simp [padv]; omega), rfl⟩
    · go_enter Tryz.func129, Tryz.ntmps129
      go_wp2
      go_ret
      exact ⟨ret_int (by simp [padv]; omega), rfl⟩
  · go_enter Tryz.func129, Tryz.ntmps129
    go_wp2
    go_ret
    exact ⟨ret_int (by simp [padv]; omega), rfl⟩


theorem pad_spec (n u : Int) (w : World) : Calls Tryz.prog 126 #[.int .i64 n, .int .i64 u] w fun e w' => e = .returned (.int .i64 (padv n u)) ∧ w = w' := by
  by_cases h1 : 0 ≤ n ∧ n ≤ 9007199254740991
  · have i1 := inB_t h1
    by_cases h2 : 1 ≤ u ∧ u ≤ 512
    · have i2 := inB_t h2
      have hm := Int.emod_nonneg n (show u ≠ 0 by omega)
      have hl := Int.emod_lt_of_pos n (show 0 < u by omega)
      by_cases h3 : n % u = 0
      · have hz : (n % u == 0) = true := by simp [h3]
        have H := Lib.hid h3
        clear h3
        go_enter Tryz.func126, Tryz.ntmps126
        go_wp2_with (go_at_call 51; refine (in_any _ _ _ _).mono ?_; rintro e w' ⟨rfl, rfl⟩)
        go_ret
        exact ⟨ret_int (by simp [padv, H.out]), rfl⟩
      · have hz : (n % u == 0) = false := by simp [h3]
        go_enter Tryz.func126, Tryz.ntmps126
        go_wp2_with (go_at_call 51; refine (in_any _ _ _ _).mono ?_; rintro e w' ⟨rfl, rfl⟩)
        go_ret
        refine ⟨ret_int ?_, rfl⟩
        rw [padv, if_pos (by omega)]
        exact (Int.emod_eq_of_lt (a := u - n % u) (by omega) (by omega)).symm
    · have i2 := inB_f h2
      go_enter Tryz.func126, Tryz.ntmps126
      go_wp2_with (go_at_call 51; refine (in_any _ _ _ _).mono ?_; rintro e w' ⟨rfl, rfl⟩)
      go_ret
      exact ⟨ret_int (by simp [padv]; omega), rfl⟩
  · have i1 := inB_f h1
    go_enter Tryz.func126, Tryz.ntmps126
    go_wp2_with (go_at_call 51; refine (in_any _ _ _ _).mono ?_; rintro e w' ⟨rfl, rfl⟩)
    go_ret
    exact ⟨ret_int (by simp [padv]; omega), rfl⟩

end Go.Proofs.YtgpgkgahbkmdiabGreatDoor

/- A body and its padding: spec.l04Body, impl.nuls, impl.padded. -/
namespace Go.Proofs.YtgpgkgahbkmdiabGreatDoor
open Go.ChangeShapes Go.WideShapes Go.ChangeAt Go.RowKit

theorem pad_bd (n : Nat) : 0 ≤ padv n 512 ∧ padv n 512 ≤ 511 := by
  unfold padv
  split
  · have h1 := Int.emod_nonneg (512 - (n : Int) % 512) (by omega : (512 : Int) ≠ 0)
    have h2 := Int.emod_lt_of_pos (512 - (n : Int) % 512) (by omega : (0 : Int) < 512)
    omega
  · omega

def bodyP (s : ByteArray) : ByteArray := s ++ nulv (padv s.size 512).toNat
theorem body_size (s : ByteArray) : (bodyP s).size ≤ s.size + 511 := by
  rw [bodyP, ByteArray.size_append, nulv_size]
  have := pad_bd s.size
  omega
theorem l04Body_spec (s : ByteArray) (w : World) (hs : s.size ≤ 4194304) :
    Calls Tryz.prog 84 #[.string s] w fun e w' => e = .returned (.string (bodyP s)) ∧ Below w.heap.size w w' := by
  have H1 := Lib.hid (fun w => pad_spec s.size 512 w)
  have hp := pad_bd s.size
  have HE : Hid (bodyP s = s ++ nulv (padv s.size 512).toNat) := Lib.hid rfl
  generalize bodyP s = r at HE
  have H2 := Lib.hid (fun w => nuls_spec (padv s.size 512) w (by omega))
  have z := nulv_size (padv s.size 512).toNat
  generalize nulv (padv s.size 512).toNat = nn at *
  generalize padv s.size 512 = pp at *
  go_enter Tryz.func84, Tryz.ntmps84
  go_wp2_with fail
  refine (H1.out _).mono ?_
  rintro e w1 ⟨rfl, rfl⟩
  go_wp2_with fail
  refine (H2.out _).mono ?_
  rintro e w2 ⟨rfl, hb⟩
  go_wp2
  go_ret
  exact ⟨ret_str HE.out.symm, hb⟩
theorem fill_empty {n : Int} (h : n ≤ 1024) : fillv ⟨#[]⟩ n = nulv n.toNat := by
  unfold fillv
  have z : (⟨#[]⟩ : ByteArray).size = 0 := rfl
  by_cases q : n ≤ 0
  · rw [if_pos (.inr (by omega)), show n.toNat = 0 from by omega]; rfl
  · rw [if_neg (by omega), z]
    apply ba_ext
    simp
theorem nulsI_any (n : Int) (w : World) (hn : n ≤ 1024) :
    Calls Tryz.prog 77 #[.int .i64 n] w fun e w' => e = .returned (.string (nulv n.toNat)) ∧ Below w.heap.size w w' := by
  have H := Lib.hid (fun w => fill_impl ⟨#[]⟩ n w (by decide))
  rw [fill_empty hn] at H
  generalize nulv n.toNat = r at H
  go_enter Tryz.func77, Tryz.ntmps77
  go_wp2_with fail
  refine (H.out _).mono ?_
  rintro e w1 ⟨rfl, hb⟩
  go_wp2
  go_ret
  exact ⟨rfl, hb⟩
theorem padded_any (s : ByteArray) (w : World) (hs : s.size ≤ 4194304) :
    Calls Tryz.prog 91 #[.string s] w fun e w' => e = .returned (.string (bodyP s)) ∧ Below w.heap.size w w' := by
  have H1 := Lib.hid (fun w => pad_impl s.size 512 w)
  have hp := pad_bd s.size
  have HE : Hid (bodyP s = s ++ nulv (padv s.size 512).toNat) := Lib.hid rfl
  generalize bodyP s = r at HE
  have H2 := Lib.hid (fun w => nulsI_any (padv s.size 512) w (by omega))
  have z := nulv_size (padv s.size 512).toNat
  generalize nulv (padv s.size 512).toNat = nn at *
  generalize padv s.size 512 = pp at *
  go_enter Tryz.func91, Tryz.ntmps91
  go_wp2_with fail
  refine (H1.out _).mono ?_
  rintro e w1 ⟨rfl, rfl⟩
  go_wp2_with fail
  refine (H2.out _).mono ?_
  rintro e w2 ⟨rfl, hb⟩
  go_wp2
  go_ret
  exact ⟨ret_str HE.out.symm, hb⟩
end Go.Proofs.YtgpgkgahbkmdiabGreatDoor

/- The texts of a header with long names cut, and of a long name: plain lists; spec.l06First, spec.l06Num. -/
namespace Go.Proofs.YtgpgkgahbkmdiabGreatDoor
open Go.ChangeShapes Go.WideShapes Go.ChangeAt Go.RowKit

def magicG : ByteArray := ⟨#[117, 115, 116, 97, 114, 32, 32, 0]⟩
def firstv (s : ByteArray) : ByteArray := if s.size ≤ 100 then s else s.extract 0 100
theorem first_size (s : ByteArray) : (firstv s).size ≤ 100 := by
  unfold firstv
  split
  · assumption
  · rw [ByteArray.size_extract]; omega
theorem first_same {s : ByteArray} (h : s.size ≤ 100) : firstv s = s := by rw [firstv, if_pos h]
/-- A header of an entry, its name and its link cut. -/
def lhdv (e : Ent) (name flag : ByteArray) (size : Int) : ByteArray := hdv { e with link := firstv e.link } (firstv name) ⟨#[]⟩ flag size magicG
def putLongv (e : Ent) (flag : ByteArray) (size : Int) : ByteArray := if entOkv e = true ∧ flag.size = 1 ∧ (0 ≤ size ∧ size ≤ 3000) then lhdv e e.path flag size else ⟨#[]⟩
theorem putLong_no {e : Ent} {flag : ByteArray} {size : Int} (h : ¬ (entOkv e = true ∧ flag.size = 1 ∧ (0 ≤ size ∧ size ≤ 3000))) : putLongv e flag size = ⟨#[]⟩ := by rw [putLongv, if_neg h]
def longPath : ByteArray := ⟨#[46, 47, 46, 47, 64, 76, 111, 110, 103, 76, 105, 110, 107]⟩
def zE : Ent := ⟨0, ⟨#[]⟩, ⟨#[]⟩, 0, 0, 0, 0, ⟨#[]⟩, ⟨#[]⟩, ⟨#[]⟩⟩
/-- The numbers and texts of a right entry. -/
theorem entOk_nums {e : Ent} (h : entOkv e = true) : (0 ≤ e.mode ∧ e.mode ≤ 4095) ∧ (0 ≤ e.uid ∧ e.uid ≤ 4294967295) ∧ (0 ≤ e.gid ∧ e.gid ≤ 4294967295) ∧ (0 ≤ e.time ∧ e.time ≤ 99999999999) ∧ e.user.size ≤ 32 ∧ e.group.size ≤ 32 := by
  simp only [entOkv, Bool.and_eq_true, decide_eq_true_eq, inB, whov] at h
  exact ⟨by omega, by omega, by omega, by omega, by omega, by omega⟩
theorem entOk_pl2 {e : Ent} (h : entOkv e = true) : e.path.size ≤ 200 ∧ e.link.size ≤ 200 := by
  simp only [entOkv, Bool.and_eq_true] at h
  refine ⟨path_200 h.1.1.1.1.1.1.1, ?_⟩
  have hk := h.2
  unfold kindOk at hk
  split at hk
  · simp only [Bool.and_eq_true, decide_eq_true_eq] at hk; omega
  · split at hk
    · simp only [Bool.and_eq_true, decide_eq_true_eq] at hk; omega
    · split at hk
      · simp only [Bool.and_eq_true, decide_eq_true_eq, inB] at hk; omega
      · split at hk
        · simp only [Bool.and_eq_true] at hk; exact path_200 hk.1.1
        · cases hk
theorem entOk_pl {k : Int} {p l : ByteArray} {m u g t : Int} {us gr b : ByteArray} (h : entOkv ⟨k, p, l, m, u, g, t, us, gr, b⟩ = true) : p.size ≤ 100000 ∧ l.size ≤ 100000 := by
  obtain ⟨h1, h2⟩ := entOk_pl2 h
  simp only at h1 h2
  omega
theorem lhd_size {e : Ent} {name flag : ByteArray} {size : Int} (nm : 0 ≤ e.mode ∧ e.mode ≤ 9007199254740991) (nu : 0 ≤ e.uid ∧ e.uid ≤ 9007199254740991) (ng : 0 ≤ e.gid ∧ e.gid ≤ 9007199254740991) (nt : 0 ≤ e.time ∧ e.time ≤ 9007199254740991) (ns : 0 ≤ size ∧ size ≤ 9007199254740991)
    (zus : e.user.size ≤ 32) (zgr : e.group.size ≤ 32) (zfl : flag.size = 1) : (lhdv e name flag size).size = 512 :=
  hdv_size (e := { e with link := firstv e.link }) (first_size name) nm nu ng nt ns (first_size e.link) zus zgr (by decide) zfl (by decide)
theorem putLong_size {e : Ent} {flag : ByteArray} {size : Int} : (putLongv e flag size).size ≤ 512 := by
  unfold putLongv
  split
  · rename_i h
    obtain ⟨h1, h2, h3, h4, h5, h6⟩ := entOk_nums h.1
    exact Nat.le_of_eq (lhd_size (by omega) (by omega) (by omega) (by omega) (by omega) h5 h6 h.2.1)
  · decide
def flagL : ByteArray := ⟨#[76]⟩
def flagK : ByteArray := ⟨#[75]⟩
def longv (kind text : ByteArray) : ByteArray := if (kind = flagL ∨ kind = flagK) ∧ text.size ≤ 250 then lhdv zE longPath kind ((text.size : Int) + 1) ++ bodyP (text ++ ⟨#[0]⟩) else ⟨#[]⟩
theorem long_no {kind text : ByteArray} (h : ¬ ((kind = flagL ∨ kind = flagK) ∧ text.size ≤ 250)) : longv kind text = ⟨#[]⟩ := by rw [longv, if_neg h]
theorem long_kind {kind : ByteArray} (h : kind = flagL ∨ kind = flagK) : kind.size = 1 := by rcases h with rfl | rfl <;> rfl
theorem long_head {kind text : ByteArray} (h : kind = flagL ∨ kind = flagK) (ht : text.size ≤ 250) : (lhdv zE longPath kind ((text.size : Int) + 1)).size = 512 :=
  lhd_size (by decide) (by decide) (by decide) (by decide) (by omega) (by decide) (by decide) (long_kind h)
theorem long_size (kind text : ByteArray) : (longv kind text).size ≤ 1275 := by
  unfold longv
  split
  · rename_i h
    have h1 := long_head h.1 h.2
    have h2 := body_size (text ++ ⟨#[0]⟩)
    rw [ByteArray.size_append] at h2 ⊢
    have h3 : (⟨#[0]⟩ : ByteArray).size = 1 := rfl
    omega
  · decide
theorem nul_167 : fillv ⟨#[]⟩ 155 ++ nulv 12 = nulv 167 := by decide +kernel

theorem l06First_any (s : ByteArray) (w : World) (hs : s.size ≤ 4194304) :
    Calls Tryz.prog 63 #[.string s, .int .i64 100] w fun e w' => e = .returned (.string (firstv s)) ∧ w = w' := by
  by_cases h : (s.size : Int) ≤ 100
  · have HE : Hid (firstv s = s) := Lib.hid (first_same (by omega))
    generalize firstv s = r at HE
    go_enter Tryz.func63, Tryz.ntmps63
    go_wp2
    go_ret
    exact ⟨ret_str HE.out.symm, rfl⟩
  · have HE : Hid (firstv s = s.extract 0 100) := Lib.hid (by rw [firstv, if_neg (by omega)])
    generalize firstv s = r at HE
    go_enter Tryz.func63, Tryz.ntmps63
    go_wp2
    go_ret
    exact ⟨ret_str HE.out.symm, rfl⟩
theorem l06Num_spec (n : Int) (x : Nat) (most : Int) (w : World) (h0 : 0 ≤ n) (h1 : n ≤ 9007199254740991) (hx : 8 ≤ x) (hx2 : x ≤ 18) (hm : most + 1 = (8 : Int) ^ (x - 1)) :
    Calls Tryz.prog 65 #[.int .i64 n, .int .i64 x, .int .i64 most] w fun e w' => e = .returned (.string (numz n x)) ∧ Below w.heap.size w w' := by
  have hp : (((8 : Nat) ^ (x - 1) : Nat) : Int) = (8 : Int) ^ (x - 1) := by push_cast; rfl
  by_cases h : n ≤ most
  · have H := Lib.hid (fun w => l04Oct_spec n x w (by omega) (by omega))
    rw [← numz_oct h0 (by omega) hx2 (by omega)] at H
    generalize numz n x = r at H
    clear hp hm
    go_enter Tryz.func65, Tryz.ntmps65
    go_wp2_with fail
    refine (H.out _).mono ?_
    rintro e w1 ⟨rfl, rfl⟩
    go_wp2
    go_ret
    exact ⟨rfl, Below.refl _ _⟩
  · have H := Lib.hid (fun w => putBig_spec n x w)
    have HE : Hid (numz n x = (putBigv n x).1) := Lib.hid (numz_big (by omega) (by omega))
    generalize numz n x = r at HE
    generalize putBigv n x = pr at *
    obtain ⟨a, b⟩ := pr
    simp only at H HE
    clear hp hm
    go_enter Tryz.func65, Tryz.ntmps65
    go_wp2_with fail
    refine (H.out _).mono ?_
    rintro e w1 ⟨rfl, hb⟩
    go_wp2
    go_ret
    exact ⟨ret_str HE.out.symm, hb⟩
end Go.Proofs.YtgpgkgahbkmdiabGreatDoor

/- Contracts of impl.startOfName, impl.longHeadText and impl.PutLong. -/
namespace Go.Proofs.YtgpgkgahbkmdiabGreatDoor
open Go.ChangeShapes Go.WideShapes Go.ChangeAt Go.RowKit Go.Deep

theorem startOf_any (s : ByteArray) (w : World) (hs : s.size ≤ 4194304) :
    Calls Tryz.prog 123 #[.string s] w fun e w' => e = .returned (.string (firstv s)) ∧ w = w' := by
  by_cases h : (s.size : Int) ≤ 100
  · have HE : Hid (firstv s = s.extract 0 (min (s.size : Int) 100).toNat) := Lib.hid (by rw [first_same (by omega), show (min (s.size : Int) 100).toNat = s.size from by omega]; simp)
    generalize firstv s = r at HE
    go_enter Tryz.func123, Tryz.ntmps123
    go_wp2
    go_ret
    exact ⟨ret_str HE.out.symm, rfl⟩
  · have HE : Hid (firstv s = s.extract 0 (min (s.size : Int) 100).toNat) := Lib.hid (by rw [firstv, if_neg (by omega), show (min (s.size : Int) 100).toNat = 100 from by omega])
    generalize firstv s = r at HE
    go_enter Tryz.func123, Tryz.ntmps123
    go_wp2
    go_ret
    exact ⟨ret_str HE.out.symm, rfl⟩
set_option maxHeartbeats 3200000 in
set_option maxRecDepth 8000 in
theorem longHead_impl (k : Int) (p l : ByteArray) (m u g t : Int) (us gr b fl : ByteArray) (sz : Int) (w : World) (hp : p.size ≤ 4194304) (hl : l.size ≤ 4194304) (zus : us.size ≤ 32) (zgr : gr.size ≤ 32) (zfl : fl.size = 1) (nm : 0 ≤ m ∧ m ≤ 9007199254740991) (nu : 0 ≤ u ∧ u ≤ 9007199254740991) (ng : 0 ≤ g ∧ g ≤ 9007199254740991) (nt : 0 ≤ t ∧ t ≤ 9007199254740991) (ns : 0 ≤ sz ∧ sz ≤ 9007199254740991) (hT : Tabs w) (hF : FW w) :
    Calls Tryz.prog 70 #[.agg #[.int .i64 k, .string p, .string l, .int .i64 m, .int .i64 u, .int .i64 g, .int .i64 t, .string us, .string gr, .string b, .string fl, .int .i64 sz]] w fun e w' => e = .returned (.string (lhdv ⟨k, p, l, m, u, g, t, us, gr, b⟩ p fl sz)) ∧ Below w.heap.size w w' := by
  have H1 := Lib.hid (fun w => startOf_any p w hp)
  have H2 := Lib.hid (fun w => startOf_any l w hl)
  have H4 := Lib.hid (fun w hT hF => headText_impl k (firstv p) (firstv l) m u g t us gr b fl sz ⟨#[]⟩ magicG w (first_size p) (first_size l) zus zgr zfl (by decide) (by decide) nm nu ng nt ns hT hF)
  have hv : hdv ⟨k, firstv p, firstv l, m, u, g, t, us, gr, b⟩ (firstv p) ⟨#[]⟩ fl sz magicG = lhdv ⟨k, p, l, m, u, g, t, us, gr, b⟩ p fl sz := rfl
  rw [hv, show magicG = ⟨#[117, 115, 116, 97, 114, 32, 32, 0]⟩ from rfl] at H4
  generalize lhdv ⟨k, p, l, m, u, g, t, us, gr, b⟩ p fl sz = r at *
  generalize firstv p = fp at *
  generalize firstv l = fl' at *
  have HF := Lib.hid hF
  have HT := Lib.hid hT
  clear hv hF hT hp hl zus zgr zfl nm nu ng nt ns
  have E0 := Lib.hid (HdO.new w ⟨k, p, l, m, u, g, t, us, gr, b⟩ fl sz)
  have B0 := Lib.hid ((Below.refl w.heap.size w).alloc (Nat.le_refl _) (.cells (hdCells ⟨k, p, l, m, u, g, t, us, gr, b⟩ fl sz).toArray 37))
  simp only [hdCells] at E0 B0
  go_enter Tryz.func70, Tryz.ntmps70
  go_wp2_with fail
  generalize w.alloc (.cells #[.int .i64 k, .string p, .string l, .int .i64 m, .int .i64 u, .int .i64 g, .int .i64 t, .string us, .string gr, .string b, .string fl, .int .i64 sz] 37) = w1 at *
  refine (H1.out _).mono ?_
  rintro e w2 ⟨rfl, rfl⟩
  have hfz := E0.out.fz 1
  obtain ⟨_, c1, c2, _⟩ := E0.out.at.zero
  have E1 := Lib.hid (E0.out.set (e' := ⟨k, fp, l, m, u, g, t, us, gr, b⟩) (fl' := fl) (sz' := sz) 1 (.string fp) rfl)
  have B1 := Lib.hid (B0.out.setCell (p := ⟨w.heap.size, 1, none⟩) (Nat.le_refl _) (.string fp))
  go_wp2_with fail
  generalize w1.setCell ⟨w.heap.size, 1, none⟩ (.string fp) = w2 at *
  clear c1 c2 hfz
  have hfz := E1.out.fz 2
  obtain ⟨_, c1, c2, _⟩ := E1.out.at.zero
  obtain ⟨c10, c11⟩ := E1.out.two
  refine (H2.out _).mono ?_
  rintro e w3 ⟨rfl, rfl⟩
  have E2 := Lib.hid (E1.out.set (e' := ⟨k, fp, fl', m, u, g, t, us, gr, b⟩) (fl' := fl) (sz' := sz) 2 (.string fl') rfl)
  have B2 := Lib.hid (B1.out.setCell (p := ⟨w.heap.size, 2, none⟩) (Nat.le_refl _) (.string fl'))
  go_wp2_with fail
  refine (H4.out _ (HT.out.below B2.out) (HF.out.below B2.out)).mono ?_
  rintro e w4 ⟨rfl, hb⟩
  go_wp2
  go_ret
  exact ⟨rfl, btE B2.out hb⟩
set_option maxHeartbeats 3200000 in
set_option maxRecDepth 8000 in
theorem putLong_impl (k : Int) (p l : ByteArray) (m u g t : Int) (us gr b fl : ByteArray) (sz : Int) (w : World) (hp : p.size ≤ 4194304) (hl : l.size ≤ 4194304) (hus : us.size ≤ 4194304) (hgr : gr.size ≤ 4194304) (hT : Tabs w) (hF : FW w) :
    Calls Tryz.prog 89 #[.agg #[.int .i64 k, .string p, .string l, .int .i64 m, .int .i64 u, .int .i64 g, .int .i64 t, .string us, .string gr, .string b], .string fl, .int .i64 sz] w fun e w' => e = .returned (.string (putLongv ⟨k, p, l, m, u, g, t, us, gr, b⟩ fl sz)) ∧ Below w.heap.size w w' := by
  have H1 := Lib.hid (fun w => entryOk_impl k p l m u g t us gr b w hp hl hus hgr)
  have H2 := Lib.hid (fun w => headOkI_any fl sz w)
  by_cases hy : entOkv ⟨k, p, l, m, u, g, t, us, gr, b⟩ = true ∧ fl.size = 1 ∧ (0 ≤ sz ∧ sz ≤ 3000)
  · have HE : Hid (putLongv ⟨k, p, l, m, u, g, t, us, gr, b⟩ fl sz = lhdv ⟨k, p, l, m, u, g, t, us, gr, b⟩ p fl sz) := Lib.hid (by rw [putLongv, if_pos hy])
    obtain ⟨n1, n2, n3, n4, n5, n6⟩ := entOk_nums hy.1
    simp only at n1 n2 n3 n4 n5 n6
    rw [hy.1] at H1
    rw [hok_iff.2 hy.2] at H2
    have H4 := Lib.hid (fun w hT hF => longHead_impl k p l m u g t us gr b fl sz w hp hl n5 n6 hy.2.1 (by omega) (by omega) (by omega) (by omega) (by have := hy.2.2; omega) hT hF)
    rw [← HE.out] at H4
    generalize putLongv ⟨k, p, l, m, u, g, t, us, gr, b⟩ fl sz = r at *
    have HF := Lib.hid hF
    have HT := Lib.hid hT
    clear HE hy hp hl hus hgr n1 n2 n3 n4 n5 n6 hF hT
    go_enter Tryz.func89, Tryz.ntmps89
    go_wp2_with fail
    refine (H1.out _).mono ?_
    rintro e w1 ⟨rfl, hb⟩
    obtain ⟨k1, bb1, z1⟩ := one_new (e1 := ⟨k, p, l, m, u, g, t, us, gr, b⟩) hb
    have E1 := Lib.hid k1
    have B1 := Lib.hid bb1
    clear hb k1 bb1 H1
    go_wp2_with fail
    refine (H2.out _).mono ?_
    rintro e w2 ⟨rfl, rfl⟩
    obtain ⟨c0, c1, c2, c3, c4, c5, c6, c7, c8, c9⟩ := E1.out.zero
    go_wp2_with fail
    refine (H4.out _ (HT.out.below B1.out) (HF.out.below B1.out)).mono ?_
    rintro e w3 ⟨rfl, hb⟩
    go_wp2
    go_ret
    exact ⟨rfl, btE B1.out hb⟩
  · have HE := Lib.hid (putLong_no hy)
    have hh : entOkv ⟨k, p, l, m, u, g, t, us, gr, b⟩ = true → hokv fl sz = false := fun h => by
      cases hq : hokv fl sz with
      | false => rfl
      | true => exact absurd ⟨h, hok_iff.1 hq⟩ hy
    generalize putLongv ⟨k, p, l, m, u, g, t, us, gr, b⟩ fl sz = r at HE
    generalize entOkv ⟨k, p, l, m, u, g, t, us, gr, b⟩ = bf at H1 hy hh
    clear hT hF hp hl hus hgr hy
    cases bf with
    | false =>
      clear hh
      go_enter Tryz.func89, Tryz.ntmps89
      go_wp2_with fail
      refine (H1.out _).mono ?_
      rintro e w1 ⟨rfl, hb⟩
      obtain ⟨-, bb1, -⟩ := one_new (e1 := ⟨k, p, l, m, u, g, t, us, gr, b⟩) hb
      have B1 := Lib.hid bb1
      clear hb bb1
      go_wp2
      go_ret
      exact ⟨ret_str HE.out.symm, B1.out⟩
    | true =>
      rw [hh rfl] at H2
      clear hh
      go_enter Tryz.func89, Tryz.ntmps89
      go_wp2_with fail
      refine (H1.out _).mono ?_
      rintro e w1 ⟨rfl, hb⟩
      obtain ⟨-, bb1, -⟩ := one_new (e1 := ⟨k, p, l, m, u, g, t, us, gr, b⟩) hb
      have B1 := Lib.hid bb1
      clear hb bb1
      go_wp2_with fail
      refine (H2.out _).mono ?_
      rintro e w2 ⟨rfl, rfl⟩
      go_wp2
      go_ret
      exact ⟨ret_str HE.out.symm, B1.out⟩
end Go.Proofs.YtgpgkgahbkmdiabGreatDoor

/- Contract of impl.readLongHead. -/
namespace Go.Proofs.YtgpgkgahbkmdiabGreatDoor
open Go.ChangeShapes Go.WideShapes Go.ChangeAt Go.RowKit

theorem octv_bd {l : List UInt8} (h : (getOctv l).2 = true) : 0 ≤ (getOctv l).1 ∧ (getOctv l).1 ≤ 9007199254740991 := by
  unfold getOctv at h ⊢
  split
  · rename_i hv
    refine ⟨hv.2.2, ?_⟩
    show vals 8 0 l ≤ _
    rw [vals_lead 8 (by omega) 0 l (by omega)]
    have := lead_bd 8 (by omega) 0 l (by omega) (by omega)
    split <;> omega
  · rename_i hv
    rw [if_neg hv] at h
    cases h
theorem fnum_bd {f : ByteArray} (h : fnumOk f = true) : 0 ≤ fnumv f ∧ fnumv f ≤ 9007199254740991 := by
  rw [fnumOk, Bool.and_eq_true] at h
  exact octv_bd h.1
theorem bigs_bd : ∀ (l : List UInt8) (n : Int), n ≤ 9007199254740991 → bigs n l ≤ 9007199254740991
  | [], n, h => h
  | c :: l, n, _ => by
    rw [bigs]
    split
    · omega
    · exact bigs_bd l _ (by omega)
theorem bigv_bd (s : ByteArray) : 0 ≤ (bigv s).1 ∧ (bigv s).1 ≤ 9007199254740991 := by
  unfold bigv
  split
  · rename_i h
    exact ⟨h.2.2.2, bigs_bd _ _ (by omega)⟩
  · decide
theorem lval_bd {l : List UInt8} {k : Nat} (h : lokv l k = true) : 0 ≤ lvalv l k ∧ lvalv l k ≤ 9007199254740991 := by
  rw [lvalv]
  rw [lokv, Bool.or_eq_true] at h
  split
  · exact bigv_bd _
  · rename_i hb
    exact fnum_bd (h.resolve_left hb)
theorem headOk_all {ok : Nat → Bool} {val : Nat → Int} (h : headOkG ok val = true) : (ok 1 = true ∧ ok 2 = true ∧ ok 3 = true ∧ ok 4 = true ∧ ok 5 = true) ∧ val 4 ≤ 3000 := by
  simp only [headOkG, ok5G, Bool.and_eq_true, decide_eq_true_eq] at h
  exact ⟨⟨h.1.1.1.1.1.2, h.1.1.1.1.2, h.1.1.1.2, h.1.1.2, h.1.2⟩, h.2⟩
theorem fW_le (l : List UInt8) (k : Nat) : (fW l k).size ≤ widths.getD k 0 := by
  rw [fW, fieldv, ba_size]
  exact List.length_take_le _ _
theorem cutW_le (l : List UInt8) (k : Nat) : (cutv (fW l k)).size ≤ widths.getD k 0 := Nat.le_trans (cutv_le _) (fW_le l k)
theorem fW_one {l : List UInt8} (h : l.length = 512) : (fW l 7).size = 1 := by
  rw [fW, fieldv, ba_size, List.length_take, List.length_drop, h]
  decide
def hdL (l : List UInt8) : ByteArray := lhdv (entVG l (lvalv l)) (pathL l) (fW l 7) (lvalv l 4)
def readLongV (s : ByteArray) : Value := readVG s (lokv (lOf s)) (lvalv (lOf s)) (hdL (lOf s))
theorem readVG_parts (s : ByteArray) (ok : Nat → Bool) (val : Nat → Int) (hd : ByteArray) : ∃ OC ev, readVG s ok val hd = .tuple #[.agg OC, ev] ∧ OC.size = 12 ∧ OC.all (·.oneCell') = true := by
  unfold readVG
  have hz : zHead.size = 12 ∧ zHead.all (·.oneCell') = true := ⟨rfl, by simp [zHead, Value.oneCell']⟩
  split
  · exact ⟨_, _, rfl, hz.1, hz.2⟩
  · split
    · exact ⟨_, _, rfl, hz.1, hz.2⟩
    · split
      · exact ⟨_, _, rfl, hz.1, hz.2⟩
      · split
        · exact ⟨_, _, rfl, rfl, by simp [okCellsG, Value.oneCell']⟩
        · exact ⟨_, _, rfl, hz.1, hz.2⟩
theorem readBy_lng (s : ByteArray) (w : World) (hs : s.size ≤ 1048576) (hT : Tabs w) (hF : FW w) :
    Calls Tryz.prog 55 #[.string s, .func (.func 69) #[] #[], .func (.func 70) #[] #[]] w fun e w' => e = .returned (readLongV s) ∧ Below w.heap.size w w' := by
  by_cases h : (s.size : Int) < 512
  · exact readBy_shortL s _ _ _ w h
  · have hl : (lOf s).length = 512 := by simp [lOf]; omega
    refine readBy_longL s _ _ _ w ?_ ?_ hs (by omega) hT hF
    · intro g w hT hF hB
      exact head_long _ _ g (lOf s) w (fun k x h1 h5 hx w hT hF hB => longNum_any g k x (lOf s) w h1 h5 hx hT hF hB) hT hF hB
    · intro hh w hT hF
      obtain ⟨⟨o1, o2, o3, o4, o5⟩, _⟩ := headOk_all hh
      exact longHead_impl 0 (pathL (lOf s)) (cutv (fW (lOf s) 8)) (lvalv (lOf s) 1) (lvalv (lOf s) 2) (lvalv (lOf s) 3) (lvalv (lOf s) 5) (cutv (fW (lOf s) 10)) (cutv (fW (lOf s) 11)) ⟨#[]⟩ (fW (lOf s) 7) (lvalv (lOf s) 4) w (by have := pathL_small (lOf s); omega) (by have := fW_small (lOf s) 8; omega) (cutW_le (lOf s) 10) (cutW_le (lOf s) 11) (fW_one hl) (lval_bd o1) (lval_bd o2) (lval_bd o3) (lval_bd o5) (lval_bd o4) hT hF
set_option maxHeartbeats 1600000 in
theorem readLong_any (s : ByteArray) (w : World) (hs : s.size ≤ 1048576) (hT : Tabs w) (hF : FW w) :
    Calls Tryz.prog 29 #[.string s] w fun e w' => e = .returned (readLongV s) ∧ Below w.heap.size w w' := by
  obtain ⟨OC, ev, hv, hsz, h1⟩ := readVG_parts s (lokv (lOf s)) (lvalv (lOf s)) (hdL (lOf s))
  have H1 := Lib.hid (fun w hT hF => readBy_lng s w hs hT hF)
  rw [readLongV, hv] at H1
  rw [readLongV, hv]
  have B0 := Lib.hid ((Below.refl w.heap.size w).alloc (Nat.le_refl _) (.cells zHead 37))
  have R0 : Hid ((w.alloc (.cells zHead 37)).heap[w.heap.size]? = some (.cells zHead 37 (0, 0))) := Lib.hid (heap_alloc_last _ _)
  have HT0 := Lib.hid (hT.below B0.out)
  have HF0 := Lib.hid (hF.below B0.out)
  have HSZ := Lib.hid hsz
  have HO1 := Lib.hid h1
  clear hT hF hv hsz h1
  go_enter Tryz.func29, Tryz.ntmps29
  go_wp2_with fail
  refine (H1.out _ HT0.out HF0.out).mono ?_
  rintro e w1 ⟨rfl, hb1⟩
  have RO1 := Lib.hid ((hb1.block w.heap.size (by simp)).trans R0.out)
  have B1 := Lib.hid (B0.out.trans (hb1.mono (by simp)))
  clear hb1 R0 B0 H1 HT0 HF0
  have HSt := Lib.hid (run_storeVar_row (P := Tryz.prog) w1 w.heap.size 37 37 zHead OC RO1.out (by rw [Tryz.sizeHd, HSZ.out]) (by rw [HSZ.out]; rfl) HO1.out)
  go_wp2_with ((with_reducible refine wpList_store_eq rfl 37 _ _ rfl ⟨w.heap.size, 0, none⟩ ?_ ?_ HSt.out ?_); rfl; rfl)
  refine bodyPost_ret (results_cell2 rfl _ _ w.heap.size _ OC (0, 0) _ rfl (setRow_heap _ _ _ _ _ _ RO1.out) Tryz.underlying37 rfl (by rw [Tryz.sizeHd, HSZ.out])) rfl ?_
  exact ⟨rfl, B1.out.trans (below_set (Nat.le_refl _) _)⟩
end Go.Proofs.YtgpgkgahbkmdiabGreatDoor
