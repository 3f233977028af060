/- Texts joined: ReadHd, RegU, GetHdI, KnownHd, Pad, BodyK, RdMem, NewK, TakeS, EndS, NumS, RegTail, ReadS. -/
import Derived.Test.YtancidbbkoeokaaGreatDoorIn
import Derived.Test.YtancidbbkoeokaaGreatDoorClone
import Derived.Test.YtancidbbkoeokaaGreatDoorPartMath
import Derived.Test.YtancidbbkoeokaaGreatDoorSum
import Derived.BigRegion
import Derived.Test.YtancidbbkoeokaaGreatDoorHeadSum
import Derived.Maps.AppendAt
import Derived.Deep.RegionHeld3
import Derived.Test.YtancidbbkoeokaaGreatDoorJU1
/- Contract of impl.readHead. -/
namespace Go.Proofs.YtancidbbkoeokaaGreatDoor
open Go.ChangeShapes Go.WideShapes Go.ChangeAt Go.RowKit

def ok5 (l : List UInt8) : Nat → Bool
  | 0 => true
  | i + 1 => ok5 l i && fnumOk (fW l (i + 1))
def headOk (l : List UInt8) : Bool := ok5 l 5 && decide (fnumv (fW l 4) ≤ 3000)
def okCells (l : List UInt8) : Array Value := #[.int .i64 0, .string (pathL l), .string (cutv (fW l 8)), .int .i64 (fnumv (fW l 1)), .int .i64 (fnumv (fW l 2)), .int .i64 (fnumv (fW l 3)), .int .i64 (fnumv (fW l 5)), .string (cutv (fW l 10)), .string (cutv (fW l 11)), .string ⟨#[]⟩, .string (fW l 7), .int .i64 (fnumv (fW l 4))]
theorem ok5_bad {l : List UInt8} {i : Nat} (hi : i < 5) (h : fnumOk (fW l (i + 1)) = false) : headOk l = false := by
  have key : ∀ n, i < n → ok5 l n = false := by
    intro n
    induction n with
    | zero => intro h; omega
    | succ n ih =>
      intro hn
      by_cases q : i = n
      · subst q; rw [ok5, h, Bool.and_false]
      · rw [ok5, ih (by omega), Bool.false_and]
  rw [headOk, key 5 hi, Bool.false_and]
def entL (l : List UInt8) : Ent := ⟨0, pathL l, cutv (fW l 8), fnumv (fW l 1), fnumv (fW l 2), fnumv (fW l 3), fnumv (fW l 5), cutv (fW l 10), cutv (fW l 11), ⟨#[]⟩⟩
def againOk (l : List UInt8) : Bool := decide (putHeadv (withKind (entL l) (fW l 7)) (fW l 7) (fnumv (fW l 4)) = ⟨l.toArray⟩)
def readV (s : ByteArray) : Value :=
  if s.size < 512 then badHd 1 else if sumOkv s = false then badHd 2 else if headOk (lOf s) = false then badHd 3
  else if againOk (lOf s) = true then .tuple #[.agg (okCells (lOf s)), .nilIface] else badHd 4
def okO (l : List UInt8) (k : Nat) : Bool := fnumOk (fW l k)
def valO (l : List UInt8) (k : Nat) : Int := fnumv (fW l k)
theorem ok5_eq (l : List UInt8) : ∀ n, ok5G (okO l) n = ok5 l n
  | 0 => rfl
  | n + 1 => by rw [ok5G, ok5, ok5_eq l n]; rfl
theorem headOk_eq (l : List UInt8) : headOkG (okO l) (valO l) = headOk l := by rw [headOkG, headOk, ok5_eq]; rfl
def hdO (l : List UInt8) : ByteArray := putHeadv (withKind (entL l) (fW l 7)) (fW l 7) (fnumv (fW l 4))
theorem readV_eq (s : ByteArray) : readVG s (okO (lOf s)) (valO (lOf s)) (hdO (lOf s)) = readV s := by
  unfold readVG readV
  rw [headOk_eq, againOk, hdO]
  simp only [decide_eq_true_eq]
  rfl
theorem readV_parts (s : ByteArray) : ∃ OC ev, readV s = .tuple #[.agg OC, ev] ∧ OC.size = 12 ∧ OC.all (·.oneCell') = true := by
  unfold readV
  have hz : zHead.size = 12 ∧ zHead.all (·.oneCell') = true := ⟨rfl, by simp [zHead, Value.oneCell']⟩
  split
  · exact ⟨_, _, rfl, hz.1, hz.2⟩
  · split
    · exact ⟨_, _, rfl, hz.1, hz.2⟩
    · split
      · exact ⟨_, _, rfl, hz.1, hz.2⟩
      · split
        · exact ⟨_, _, rfl, rfl, by simp [okCells, Value.oneCell']⟩
        · exact ⟨_, _, rfl, hz.1, hz.2⟩
theorem kindOfI_any (fl : ByteArray) (w : World) : Calls Tryz.prog 45 #[.string fl] w fun e w' => e = .returned (.int .i64 (max (kindv fl) 0)) ∧ w = w' := by
  have H := Lib.hid (fun w => kind_impl fl w)
  generalize kindv fl = k at *
  go_enter Tryz.func45, Tryz.ntmps45
  go_wp2_with fail
  refine (H.out _).mono ?_
  rintro e w1 ⟨rfl, rfl⟩
  go_wp2
  go_ret
  exact ⟨rfl, rfl⟩
theorem withKind_max (p l : ByteArray) (m u g t : Int) (us gr b fl : ByteArray) : withKind ⟨0, p, l, m, u, g, t, us, gr, b⟩ fl = ⟨max (kindv fl) 0, p, l, m, u, g, t, us, gr, b⟩ := by
  rw [withKind]
  congr 1
  split <;> omega
set_option maxHeartbeats 1600000 in
set_option maxRecDepth 8000 in
theorem again_impl (p l : ByteArray) (m u g t : Int) (us gr b fl : ByteArray) (sz : Int) (w : World) (hp : p.size ≤ 4194304) (hl : l.size ≤ 4194304) (hus : us.size ≤ 4194304) (hgr : gr.size ≤ 4194304) (hT : Tabs w) (hF : FW w) :
    Calls Tryz.prog 49 #[.agg #[.int .i64 0, .string p, .string l, .int .i64 m, .int .i64 u, .int .i64 g, .int .i64 t, .string us, .string gr, .string b, .string fl, .int .i64 sz]] w fun e w' => e = .returned (.string (putHeadv (withKind ⟨0, p, l, m, u, g, t, us, gr, b⟩ fl) fl sz)) ∧ Below w.heap.size w w' := by
  have H1 := Lib.hid (fun w => kindOfI_any fl w)
  rw [withKind_max]
  generalize max (kindv fl) 0 = kk at *
  have H2 := Lib.hid (fun w hT hF => putHead_impl kk p l m u g t us gr b fl sz w hp hl hus hgr hT hF)
  generalize putHeadv ⟨kk, p, l, m, u, g, t, us, gr, b⟩ fl sz = r at *
  have HT := Lib.hid hT
  have HF := Lib.hid hF
  have E0 := Lib.hid (HdO.new w ⟨0, p, l, m, u, g, t, us, gr, b⟩ fl sz)
  have B0 := Lib.hid ((Below.refl w.heap.size w).alloc (Nat.le_refl _) (.cells (hdCells ⟨0, p, l, m, u, g, t, us, gr, b⟩ fl sz).toArray 40))
  simp only [hdCells] at E0 B0
  have hs0 : (w.alloc (.cells #[.int .i64 0, .string p, .string l, .int .i64 m, .int .i64 u, .int .i64 g, .int .i64 t, .string us, .string gr, .string b, .string fl, .int .i64 sz] 40)).heap.size = w.heap.size + 1 := by simp
  clear hT hF hp hl hus hgr
  go_enter Tryz.func49, Tryz.ntmps49
  go_wp2_with fail
  generalize w.alloc (.cells #[.int .i64 0, .string p, .string l, .int .i64 m, .int .i64 u, .int .i64 g, .int .i64 t, .string us, .string gr, .string b, .string fl, .int .i64 sz] 40) = w1 at *
  have X1 := Lib.hid (EntO.new w1 ⟨0, p, l, m, u, g, t, us, gr, b⟩)
  have D1 := (Below.refl w1.heap.size w1).alloc (Nat.le_refl _) (.cells (Ent.cells ⟨0, p, l, m, u, g, t, us, gr, b⟩).toArray 32)
  have E1 := Lib.hid (E0.out.below D1 E0.out.lt)
  have B1 := Lib.hid (btE B0.out D1)
  rw [hs0] at X1
  simp only [Ent.cells] at X1 E1 B1 D1
  generalize w1.alloc (.cells #[.int .i64 0, .string p, .string l, .int .i64 m, .int .i64 u, .int .i64 g, .int .i64 t, .string us, .string gr, .string b] 32) = w2 at *
  clear hs0 D1 E0 B0
  refine (H1.out _).mono ?_
  rintro e w3 ⟨rfl, rfl⟩
  have hfz := X1.out.fz 0
  obtain ⟨c0, c1, c2, c3, c4, c5, c6, c7, c8, c9⟩ := X1.out.at.zero
  obtain ⟨c10, c11⟩ := E1.out.two
  have X2 := Lib.hid (X1.out.set (e' := ⟨kk, p, l, m, u, g, t, us, gr, b⟩) 0 (.int .i64 kk) rfl)
  have B2 := Lib.hid (B1.out.setCell (p := ⟨w.heap.size + 1, 0, none⟩) (by simp) (.int .i64 kk))
  go_wp2_with fail
  refine (H2.out _ (HT.out.below B2.out) (HF.out.below B2.out)).mono ?_
  rintro e w4 ⟨rfl, hb⟩
  go_wp2
  go_ret
  exact ⟨rfl, btE B2.out hb⟩
theorem okCells_eq (l : List UInt8) : okCellsG l (valO l) = okCells l := rfl
theorem pathL_small (l : List UInt8) : (pathL l).size ≤ 311 := by
  have a := fW_small l 0
  have b := fW_small l 14
  unfold pathL
  split
  · omega
  · rw [ByteArray.size_append, ByteArray.size_append]; have : (⟨#[47]⟩ : ByteArray).size = 1 := rfl; omega
theorem readBy_oct (s : ByteArray) (w : World) (hs : s.size ≤ 1048576) (hT : Tabs w) (hF : FW w) :
    Calls Tryz.prog 47 #[.string s, .func (.func 48) #[] #[], .func (.func 49) #[] #[]] w fun e w' => e = .returned (readV s) ∧ Below w.heap.size w w' := by
  rw [← readV_eq]
  by_cases h : (s.size : Int) < 512
  · exact readBy_shortO s _ _ _ w h
  · refine readBy_longO s _ _ _ w ?_ ?_ hs (by omega) hT hF
    · intro g w hT hF hB
      refine head_oct _ _ g (lOf s) w ?_ hT hF hB
      intro k x h1 h5 hx w hT hF hB
      refine (number_any g k x (lOf s) w (by omega) hx hF hB).mono ?_
      have hfw : fieldv (lOf s) k x = fW (lOf s) k := by rw [fW, List.getD, hx]; rfl
      rw [hfw]
      rintro e w' ⟨rfl, rfl⟩
      exact ⟨rfl, Below.refl _ _⟩
    · intro _ w hT hF
      exact again_impl (pathL (lOf s)) (cutv (fW (lOf s) 8)) (fnumv (fW (lOf s) 1)) (fnumv (fW (lOf s) 2)) (fnumv (fW (lOf s) 3)) (fnumv (fW (lOf s) 5)) (cutv (fW (lOf s) 10)) (cutv (fW (lOf s) 11)) ⟨#[]⟩ (fW (lOf s) 7) (fnumv (fW (lOf s) 4)) w (by have := pathL_small (lOf s); omega) (by have := fW_small (lOf s) 8; omega) (by have := fW_small (lOf s) 10; omega) (by have := fW_small (lOf s) 11; omega) hT hF
set_option maxHeartbeats 1600000 in
theorem readHead_any (s : ByteArray) (w : World) (hs : s.size ≤ 1048576) (hT : Tabs w) (hF : FW w) :
    Calls Tryz.prog 28 #[.string s] w fun e w' => e = .returned (readV s) ∧ Below w.heap.size w w' := by
  obtain ⟨OC, ev, hv, hsz, h1⟩ := readV_parts s
  have H1 := Lib.hid (fun w hT hF => readBy_oct s w hs hT hF)
  rw [hv] at H1 ⊢
  have B0 := Lib.hid ((Below.refl w.heap.size w).alloc (Nat.le_refl _) (.cells zHead 40))
  have R0 : Hid ((w.alloc (.cells zHead 40)).heap[w.heap.size]? = some (.cells zHead 40 (0, 0))) := Lib.hid (heap_alloc_last _ _)
  have HT0 := Lib.hid (hT.below B0.out)
  have HF0 := Lib.hid (hF.below B0.out)
  have HSZ := Lib.hid hsz
  have HO1 := Lib.hid h1
  clear hT hF hv hsz h1
  go_enter Tryz.func28, Tryz.ntmps28
  go_wp2_with fail
  refine (H1.out _ HT0.out HF0.out).mono ?_
  rintro e w1 ⟨rfl, hb1⟩
  have RO1 := Lib.hid ((hb1.block w.heap.size (by simp)).trans R0.out)
  have B1 := Lib.hid (B0.out.trans (hb1.mono (by simp)))
  clear hb1 R0 B0 H1 HT0 HF0
  have HSt := Lib.hid (run_storeVar_row (P := Tryz.prog) w1 w.heap.size 40 40 zHead OC RO1.out (by rw [Tryz.sizeHd, HSZ.out]) (by rw [HSZ.out]; rfl) HO1.out)
  go_wp2_with ((with_reducible refine wpList_store_eq rfl 40 _ _ rfl ⟨w.heap.size, 0, none⟩ ?_ ?_ HSt.out ?_); rfl; rfl)
  refine bodyPost_ret (results_cell2 rfl _ _ w.heap.size _ OC (0, 0) _ rfl (setRow_heap _ _ _ _ _ _ RO1.out) Tryz.underlying40 rfl (by rw [Tryz.sizeHd, HSZ.out])) rfl ?_
  exact ⟨rfl, B1.out.trans (below_set (Nat.le_refl _) _)⟩
end Go.Proofs.YtancidbbkoeokaaGreatDoor

/- A statement that draws its order and writes memory: beside what each slot holds, what each operation has left in memory. Nothing of the program is said here. -/
namespace Go.Proofs.YtancidbbkoeokaaGreatDoor
open Go

section
variable {P : Program} {ops : Array Oper} {Q : Exit → Act → World → Prop} {md : Region.Mode}

/-- What has come up has left what it should, all else is as it was. -/
structure RegIU (md : Region.Mode) (ops : Array Oper) (C : World → Prop) (V : Nat → Value → World → Prop) (U : Oper → World → Prop) (a0 : Act) (listed : Array Bool) (a : Act) (w : World) : Prop where
  size : listed.size = ops.size
  clo : ∀ j p, ops[j]? = some p → listed.getD j false = true → ∀ e ∈ p.after, Region.binds md e = true → listed.getD e.on false = true
  cls : C w
  defers : a.defers = a0.defers
  tsize : a.tmps.size = a0.tmps.size
  old : ∀ t, (∀ i o, ops[i]? = some o → listed.getD i false = true → o.dst ≠ some t) → a.tmps.getD t undef = a0.tmps.getD t undef
  unew : ∀ i o, ops[i]? = some o → listed.getD i false = true → U o w
  new : ∀ i o d, ops[i]? = some o → listed.getD i false = true → o.dst = some d → V d (a.tmps.getD d undef) w
/-- One operation, in whatever state what it looks at is there. -/
def OpOkU (P : Program) (ops : Array Oper) (C : World → Prop) (St : World → World → Prop) (V : Nat → Value → World → Prop) (U : Oper → World → Prop) (a0 : Act) (o : Oper) : Prop :=
  ∀ (Q : Exit → Act → World → Prop) (a : Act) (w : World), C w → (∀ t, Operand.tmp t ∈ o.op.operands → oldB .any ops o t = false → V t (a.eval (.tmp t)) w) → (∀ t, Operand.tmp t ∈ o.op.operands → oldB .any ops o t = true → a.eval (.tmp t) = a0.eval (.tmp t)) →
    o.wp P a w (fun a' w' => ∃ v, a' = a.put o.dst v ∧ C w' ∧ St w w' ∧ (∀ d, o.dst = some d → V d v w') ∧ U o w') Q
/-- **The region, in whatever order.** -/
theorem wp_region_u {id : Nat} {a0 : Act} {w0 : World} {l : List Oper} (hm : P.follows .mixedOrders = true) (C : World → Prop) (St : World → World → Prop) (V : Nat → Value → World → Prop) (U : Oper → World → Prop) (hB : regB .any l.toArray a0.tmps.size = true)
    (hC : C { w0 with drawn := w0.drawn + 1 }) (hV : ∀ d v w w', C w → St w w' → V d v w → V d v w') (hU : ∀ o w w', C w → St w w' → U o w → U o w') (hops : ∀ o ∈ l, OpOkU P l.toArray C St V U a0 o)
    (hend : ∀ (f : Nat → Value) (w : World), C w → (∀ o ∈ l, ∀ d, o.dst = some d → V d (f d) w) → (∀ o ∈ l, U o w) → Q .normal (putAll f l a0) w) : (Code.region id l.toArray true).wp P Q a0 w0 := by
  refine wp_region_any hm (wpAny_inv (RegIU .any l.toArray C V U a0) ?_ ?_ _ _ _ _ ?_ ?_)
  · intro listed a w hI i hi
    obtain ⟨hun, o, ho, hall⟩ := mem_ready.1 hi
    have hat := regB_at hB ho
    have hwant : Region.wanted o (yielded l.toArray a.tmps) = true := by simp [Region.wanted, hat.1]
    have hmem : o ∈ l := by
      have := Array.mem_of_getElem? ho
      simpa using this
    have hrun := hops o hmem Q a w hI.cls (fun t ht hin => ?_) (fun t ht hin => ?_)
    · unfold wpOp
      simp only [ho, hwant, if_true]
      refine .inl (Oper.wp_mono (fun a' w' h' => ?_) hrun)
      obtain ⟨v, rfl, hC', hSt, hv, hu⟩ := h'
      have hltl : i < listed.size := by rw [hI.size]; exact (Array.getElem?_eq_some_iff.1 ho).1
      refine ⟨by simpa using hI.size, fun j p hp hl e he hb => ?_, hC', ?_, ?_, fun t ht => ?_, fun j p hp hl => ?_, fun j p d hp hl hd => ?_⟩
      · have hup : ∀ k, listed.getD k false = true → (listed.setIfInBounds i true).getD k false = true := fun k hk => by
          by_cases q : k = i
          · subst q; exact set_getD_self hltl
          · rw [set_getD_ne q]; exact hk
        by_cases hj : j = i
        · subst hj
          rw [ho] at hp
          obtain rfl := Option.some.inj hp
          exact hup _ (hall e he hb)
        · rw [set_getD_ne hj] at hl
          exact hup _ (hI.clo j p hp hl e he hb)
      · cases hdst : o.dst <;> simp [Act.put, hI.defers]
      · cases hdst : o.dst <;> simp [Act.put, hI.tsize]
      · have hne : o.dst ≠ some t := ht i o ho (set_getD_self hltl)
        have h1 := hI.old t (fun j p hp hl => ht j p hp (by
          by_cases hj : j = i
          · subst hj; exact set_getD_self hltl
          · rw [set_getD_ne hj]; exact hl))
        rw [← h1]
        cases hdst : o.dst with
        | none => rfl
        | some d =>
          have hdt : d ≠ t := fun e => hne (by rw [hdst, e])
          exact getD_put_ne hdt
      · by_cases hj : j = i
        · subst hj
          rw [ho] at hp
          obtain rfl := Option.some.inj hp
          exact hu
        · have hl' : listed.getD j false = true := by rw [set_getD_ne hj] at hl; exact hl
          exact hU p _ _ hI.cls hSt (hI.unew j p hp hl')
      · by_cases hj : j = i
        · subst hj
          rw [ho] at hp
          obtain rfl := Option.some.inj hp
          have hdl := hat.2.1 d hd
          have : (a.put o.dst v).tmps.getD d undef = v := by
            rw [hd]; simp [Act.put, Array.getD, hI.tsize, hdl]
          rw [this]
          exact hv d hd
        · have hl' : listed.getD j false = true := by rw [set_getD_ne hj] at hl; exact hl
          have hne : o.dst ≠ some d := ((hat.2.2.2 j p d hp hd).1).resolve_left (Ne.symm hj)
          have hold := hI.new j p d hp hl' hd
          have : (a.put o.dst v).tmps.getD d undef = a.tmps.getD d undef := by
            cases hdst : o.dst with
            | none => rfl
            | some d' =>
              have hdt : d' ≠ d := fun e => hne (by rw [hdst, e])
              exact getD_put_ne hdt
          rw [this]
          exact hV d _ _ _ hI.cls hSt hold
    · obtain ⟨j, p, hp, hd⟩ := oldB_f hin
      obtain ⟨e, he, hb, rfl⟩ := (hat.2.2.2 j p t hp hd).2 (by simpa using ht) hin
      exact hI.new e.on p t hp (hall e he hb) hd
    · refine hI.old t (fun j p hp hl hd => ?_)
      obtain ⟨d, hod, e, he, hb, hq⟩ := oldB_t hin hp hd
      have hel := hI.clo j p hp hl e he hb
      cases hqq : l.toArray[e.on]? with
      | none => rw [hqq] at hq; cases hq
      | some q =>
        rw [hqq] at hq
        rcases (hat.2.2.2 e.on q d hqq hq).1 with rfl | h
        · have hlt : e.on < listed.size := by rw [hI.size]; exact (Array.getElem?_eq_some_iff.1 hqq).1
          simp only [Array.getD, hlt, dif_pos] at hel hun
          rw [hel] at hun
          cases hun
        · exact h hod
  · intro listed a w hI hr
    have hal := all_listed hB hI.size hr
    have hput := putAll_facts (fun d => a.tmps.getD d undef) l a0
    have ha : a = putAll (fun d => a.tmps.getD d undef) l a0 := by
      refine act_ext (hI.defers.trans hput.1.symm) (hI.tsize.trans hput.2.1.symm) (fun t ht => ?_)
      rw [hput.2.1] at ht
      rw [hput.2.2 t ht]
      by_cases h : l.any (fun o => o.dst == some t) = true
      · rw [if_pos h]
      · rw [if_neg h]
        refine hI.old t (fun i o ho _ hd => h ?_)
        rw [List.any_eq_true]
        exact ⟨o, by have := Array.mem_of_getElem? ho; simpa using this, by rw [hd]; simp⟩
    rw [ha]
    refine hend _ w hI.cls (fun o ho d hd => ?_) (fun o ho => ?_)
    rotate_left
    · obtain ⟨i, hi⟩ := List.mem_iff_getElem?.1 ho
      have hi' : l.toArray[i]? = some o := by simpa using hi
      exact hI.unew i o hi' (hal i (Array.getElem?_eq_some_iff.1 hi').1)
    obtain ⟨i, hi⟩ := List.mem_iff_getElem?.1 ho
    have hi' : l.toArray[i]? = some o := by simpa using hi
    exact hI.new i o d hi' (hal i (Array.getElem?_eq_some_iff.1 hi').1) hd
  · unfold openOps
    exact Nat.le_trans (List.length_filter_le _ _) (by simp)
  · refine ⟨by simp, fun j p _ hl => ?_, hC, rfl, rfl, fun t _ => rfl, fun i o ho hl => ?_, fun i o d ho hl _ => ?_⟩
    · simp [Array.getD] at hl
    · simp [Array.getD] at hl
    · simp [Array.getD] at hl
theorem opU_val {C : World → Prop} {St : World → World → Prop} {V : Nat → Value → World → Prop} {U : Oper → World → Prop} {o : Oper} {a : Act} {w w' : World} (v : Value) (h : (execOp a.eval o).run P w = .ok (.value v) w') (hC : C w') (hS : St w w') (hv : ∀ d, o.dst = some d → V d v w') (hu : U o w') :
    o.wp P a w (fun a' w' => ∃ v, a' = a.put o.dst v ∧ C w' ∧ St w w' ∧ (∀ d, o.dst = some d → V d v w') ∧ U o w') Q := by
  unfold Oper.wp
  rw [h]
  exact ⟨v, rfl, hC, hS, hv, hu⟩
theorem opU_call {C : World → Prop} {St : World → World → Prop} {V : Nat → Value → World → Prop} {U : Oper → World → Prop} {o : Oper} {a : Act} {w : World} {f : FuncId} {args : Array Value} {R : Value → World → Prop} (h : (execOp a.eval o).run P w = .ok (.enter f args) w)
    (hc : Calls P f args w fun e w' => ∃ v, e = .returned v ∧ R v w') (hR : ∀ v w', R v w' → C w' ∧ St w w' ∧ (∀ d, o.dst = some d → V d v w') ∧ U o w') :
    o.wp P a w (fun a' w' => ∃ v, a' = a.put o.dst v ∧ C w' ∧ St w w' ∧ (∀ d, o.dst = some d → V d v w') ∧ U o w') Q := by
  unfold Oper.wp
  rw [h]
  refine Calls.mono hc (fun e w' he => ?_)
  obtain ⟨v, rfl, hr⟩ := he
  obtain ⟨h1, h2, h3, h4⟩ := hR v w' hr
  exact ⟨v, rfl, h1, h2, h3, h4⟩
theorem opU_store {C : World → Prop} {St : World → World → Prop} {V : Nat → Value → World → Prop} {U : Oper → World → Prop} {o : Oper} {a : Act} {w w' : World} (ty : TypeId) (x y : Operand) (ho : o.op = .store ty x y) (hd : o.dst = none) (g : Addr) (hx : a.eval x = .pointer (some g)) {v : Value} (hy : a.eval y = v) (hr : (storeVar ty g v).run P w = .ok () w') (hC : C w') (hS : St w w') (hu : U o w') :
    o.wp P a w (fun a' w' => ∃ v, a' = a.put o.dst v ∧ C w' ∧ St w w' ∧ (∀ d, o.dst = some d → V d v w') ∧ U o w') Q := by
  unfold Oper.wp execOp
  simp only [ho, hx, hy, Instr.storeAt, Instr.sureAddr, Sem.run_bind, Sem.run_pure, Result.andThen_ok, hr]
  exact ⟨undef, rfl, hC, hS, fun d h => (by rw [hd] at h; cases h), hu⟩
end
end Go.Proofs.YtancidbbkoeokaaGreatDoor

/- Contract of impl.GetHead. -/
namespace Go.Proofs.YtancidbbkoeokaaGreatDoor
open Go.ChangeShapes Go.WideShapes Go.ChangeAt Go.RowKit

def zEnt : Array Value := #[.int .i64 0, .string ⟨#[]⟩, .string ⟨#[]⟩, .int .i64 0, .int .i64 0, .int .i64 0, .int .i64 0, .string ⟨#[]⟩, .string ⟨#[]⟩, .string ⟨#[]⟩]
/-- The code of a header. -/
def hdc (s : ByteArray) : Int := if s.size < 512 then 1 else if sumOkv s = false then 2 else if headOk (lOf s) = false then 3 else if againOk (lOf s) = true then 0 else 4
theorem readV_code (s : ByteArray) : (hdc s = 0 ∧ readV s = .tuple #[.agg (okCells (lOf s)), .nilIface]) ∨ (¬ hdc s = 0 ∧ readV s = badHd (hdc s)) := by
  unfold hdc readV
  split
  · exact .inr ⟨by omega, rfl⟩
  · split
    · exact .inr ⟨by omega, rfl⟩
    · split
      · exact .inr ⟨by omega, rfl⟩
      · split
        · exact .inl ⟨rfl, rfl⟩
        · exact .inr ⟨by omega, rfl⟩
def getV (s : ByteArray) : Value := if hdc s = 0 then .tuple #[.agg (entL (lOf s)).cells.toArray, .string (fW (lOf s) 7), .int .i64 (fnumv (fW (lOf s) 4)), .int .i64 0] else .tuple #[.agg zEnt, .string ⟨#[]⟩, .int .i64 0, .int .i64 (hdc s)]
theorem results_cell4 {P : Program} {fn : Func} {p u1 u2 u3 : Tmp} {ty : TypeId} (h : fn.results = #[.cell p ty, .tmp u1, .tmp u2, .tmp u3]) (tmps : Array Value) (w : World) (g : Nat) (t : TypeId) (cs : Array Value) (fr : Nat × Nat) (d : TypeDesc)
    (hp : tmps.getD p undef = .pointer (some ⟨g, 0, none⟩)) (hg : w.heap[g]? = some (.cells cs t fr))
    (hu : P.underlying ty = some d) (hd : (match d with | .struct _ | .array _ _ => true | _ => false) = true) (hi : (P.info? ty).map (·.size) = some cs.size) :
    (results fn tmps).run P w = .ok (.tuple #[.agg cs, tmps.getD u1 undef, tmps.getD u2 undef, tmps.getD u3 undef]) w := by
  have hp' : tmps[p]?.getD undef = .pointer (some ⟨g, 0, none⟩) := by simpa using hp
  simp [results, h, hp', asAddr, run_loadVar_row w g t ty cs fr d hg hu hd hi]
theorem Tryz.sizeEnt : (Tryz.prog.info? 32).map (·.size) = some 10 := by kernel_rfl

end Go.Proofs.YtancidbbkoeokaaGreatDoor

/- Contract of impl.readKnownHead. -/
namespace Go.Proofs.YtancidbbkoeokaaGreatDoor
open Go.ChangeShapes Go.WideShapes Go.ChangeAt Go.RowKit

def knownV (s : ByteArray) : Value := if hdc s = 0 ∧ kindv (fW (lOf s) 7) < 0 then badHd 4 else readV s
set_option maxHeartbeats 3200000 in
set_option maxRecDepth 8000 in
theorem knownHead_any (s : ByteArray) (w : World) (hs : s.size ≤ 1048576) (hT : Tabs w) (hF : FW w) :
    Calls Tryz.prog 13 #[.string s] w fun e w' => e = .returned (knownV s) ∧ Below w.heap.size w w' := by
  have H1 := Lib.hid (fun w hT hF => readHead_any s w hs hT hF)
  have B0 := Lib.hid ((Below.refl w.heap.size w).alloc (Nat.le_refl _) (.cells zHead 40))
  have R0 : Hid ((w.alloc (.cells zHead 40)).heap[w.heap.size]? = some (.cells zHead 40 (0, 0))) := Lib.hid (heap_alloc_last _ _)
  have HT0 := Lib.hid (hT.below B0.out)
  have HF0 := Lib.hid (hF.below B0.out)
  clear hT hF
  rcases readV_code s with ⟨hc, hv⟩ | ⟨hc, hv⟩
  · have HK : Hid (knownV s = if kindv (fW (lOf s) 7) < 0 then badHd 4 else .tuple #[.agg #[.int .i64 0, .string (pathL (lOf s)), .string (cutv (fW (lOf s) 8)), .int .i64 (fnumv (fW (lOf s) 1)), .int .i64 (fnumv (fW (lOf s) 2)), .int .i64 (fnumv (fW (lOf s) 3)), .int .i64 (fnumv (fW (lOf s) 5)), .string (cutv (fW (lOf s) 10)), .string (cutv (fW (lOf s) 11)), .string ⟨#[]⟩, .string (fW (lOf s) 7), .int .i64 (fnumv (fW (lOf s) 4))], .nilIface]) := Lib.hid (by
      rw [knownV, hv]
      by_cases h : kindv (fW (lOf s) 7) < 0
      · rw [if_pos ⟨hc, h⟩, if_pos h]
      · rw [if_neg (fun k => h k.2), if_neg h]; rfl)
    rw [hv, okCells] at H1
    generalize knownV s = r at *
    generalize pathL (lOf s) = pth at *
    generalize cutv (fW (lOf s) 8) = lk at *
    generalize cutv (fW (lOf s) 10) = us at *
    generalize cutv (fW (lOf s) 11) = gr at *
    generalize fnumv (fW (lOf s) 1) = nm at *
    generalize fnumv (fW (lOf s) 2) = nu at *
    generalize fnumv (fW (lOf s) 3) = ng at *
    generalize fnumv (fW (lOf s) 5) = nt at *
    generalize fnumv (fW (lOf s) 4) = nz at *
    generalize fW (lOf s) 7 = fl at *
    have HKd := Lib.hid (fun w => kind_impl fl w)
    generalize kindv fl = kd at *
    clear hc hv
    go_enter Tryz.func13, Tryz.ntmps13
    go_wp2_with fail
    refine (H1.out _ HT0.out HF0.out).mono ?_
    rintro e w1 ⟨rfl, hb1⟩
    have RO1 := Lib.hid ((hb1.block w.heap.size (by simp)).trans R0.out)
    have B1 := Lib.hid (B0.out.trans (hb1.mono (by simp)))
    clear hb1 R0 B0 H1 HT0 HF0
    have HSn := Lib.hid (run_storeVar_new (P := Tryz.prog) w1 40 zHead #[.int .i64 0, .string pth, .string lk, .int .i64 nm, .int .i64 nu, .int .i64 ng, .int .i64 nt, .string us, .string gr, .string ⟨#[]⟩, .string fl, .int .i64 nz] (by rw [Tryz.sizeHd]; rfl) rfl (by simp [Value.oneCell']))
    go_wp2_with ((with_reducible refine wpList_store_eq rfl 40 _ _ rfl ⟨w1.heap.size, 0, none⟩ ?_ ?_ HSn.out ?_); rfl; rfl)
    have OB := heap_alloc_last w1 (.cells #[.int .i64 0, .string pth, .string lk, .int .i64 nm, .int .i64 nu, .int .i64 ng, .int .i64 nt, .string us, .string gr, .string ⟨#[]⟩, .string fl, .int .i64 nz] 40)
    have BX := (Below.refl w1.heap.size w1).alloc (Nat.le_refl _) (.cells #[.int .i64 0, .string pth, .string lk, .int .i64 nm, .int .i64 nu, .int .i64 ng, .int .i64 nt, .string us, .string gr, .string ⟨#[]⟩, .string fl, .int .i64 nz] 40)
    generalize w1.alloc (.cells #[.int .i64 0, .string pth, .string lk, .int .i64 nm, .int .i64 nu, .int .i64 ng, .int .i64 nt, .string us, .string gr, .string ⟨#[]⟩, .string fl, .int .i64 nz] 40) = w4 at *
    have OB' := Lib.hid OB
    have RO4 := Lib.hid ((BX.block _ (obj_lt RO1.out)).trans RO1.out)
    have B4 := Lib.hid (B1.out.trans (BX.mono B1.out.size))
    clear OB BX RO1 B1 HSn
    have c10 : w4.cell? ⟨w1.heap.size, 10, none⟩ = some (.string fl) := by rw [cell_of_row _ _ _ _ _ _ OB'.out]; rfl
    refine (HKd.out _).mono ?_
    rintro e w5 ⟨rfl, rfl⟩
    by_cases hk : kd < 0
    · have HE := Lib.hid (HK.out.trans (if_pos hk))
      have HSt := Lib.hid (run_storeVar_row (P := Tryz.prog) w4 w.heap.size 40 40 zHead zHead RO4.out (by rw [Tryz.sizeHd]; rfl) rfl (by simp [zHead, Value.oneCell']))
      clear HK
      go_wp2_with ((with_reducible refine wpList_store_eq rfl 40 _ _ rfl ⟨w.heap.size, 0, none⟩ ?_ ?_ HSt.out ?_); rfl; rfl)
      refine bodyPost_ret (results_cell2 rfl _ _ w.heap.size _ zHead (0, 0) _ rfl (setRow_heap _ _ _ _ _ _ RO4.out) Tryz.underlying40 rfl (by rw [Tryz.sizeHd]; rfl)) rfl ?_
      rw [HE.out]
      exact ⟨rfl, B4.out.trans (below_set (Nat.le_refl _) _)⟩
    · have HE := Lib.hid (HK.out.trans (if_neg hk))
      have HLd := Lib.hid (run_loadVar_row (P := Tryz.prog) _ _ 40 40 _ (0, 0) _ OB'.out Tryz.underlying40 rfl (by rw [Tryz.sizeHd]; rfl))
      have HSt := Lib.hid (run_storeVar_row (P := Tryz.prog) w4 w.heap.size 40 40 zHead #[.int .i64 0, .string pth, .string lk, .int .i64 nm, .int .i64 nu, .int .i64 ng, .int .i64 nt, .string us, .string gr, .string ⟨#[]⟩, .string fl, .int .i64 nz] RO4.out (by rw [Tryz.sizeHd]; rfl) rfl (by simp [Value.oneCell']))
      clear HK c10
      go_wp2_with (first | ((with_reducible refine wpList_load_eq rfl 40 _ rfl ⟨w1.heap.size, 0, none⟩ ?_ HLd.out ?_); rfl) | ((with_reducible refine wpList_store_eq rfl 40 _ _ rfl ⟨w.heap.size, 0, none⟩ ?_ ?_ HSt.out ?_); rfl; rfl))
      refine bodyPost_ret (results_cell2 rfl _ _ w.heap.size _ #[.int .i64 0, .string pth, .string lk, .int .i64 nm, .int .i64 nu, .int .i64 ng, .int .i64 nt, .string us, .string gr, .string ⟨#[]⟩, .string fl, .int .i64 nz] (0, 0) _ rfl (setRow_heap _ _ _ _ _ _ RO4.out) Tryz.underlying40 rfl (by rw [Tryz.sizeHd]; rfl)) rfl ?_
      rw [HE.out]
      exact ⟨rfl, B4.out.trans (below_set (Nat.le_refl _) _)⟩
  · have HK : Hid (knownV s = badHd (hdc s)) := Lib.hid (by rw [knownV, if_neg (fun k => hc k.1), hv])
    rw [hv, badHd] at H1
    generalize knownV s = r at *
    generalize hdc s = cd at *
    clear hc hv
    go_enter Tryz.func13, Tryz.ntmps13
    go_wp2_with fail
    refine (H1.out _ HT0.out HF0.out).mono ?_
    rintro e w1 ⟨rfl, hb1⟩
    have RO1 := Lib.hid ((hb1.block w.heap.size (by simp)).trans R0.out)
    have B1 := Lib.hid (B0.out.trans (hb1.mono (by simp)))
    clear hb1 R0 B0 H1 HT0 HF0
    have HSn := Lib.hid (run_storeVar_new (P := Tryz.prog) w1 40 zHead zHead (by rw [Tryz.sizeHd]; rfl) rfl (by simp [zHead, Value.oneCell']))
    have OB := heap_alloc_last w1 (.cells zHead 40)
    have BX := (Below.refl w1.heap.size w1).alloc (Nat.le_refl _) (.cells zHead 40)
    have RO4 := Lib.hid ((BX.block _ (obj_lt RO1.out)).trans RO1.out)
    have B4 := Lib.hid (B1.out.trans (BX.mono B1.out.size))
    have HLd := Lib.hid (run_loadVar_row (P := Tryz.prog) _ _ 40 40 _ (0, 0) _ OB Tryz.underlying40 rfl (by rw [Tryz.sizeHd]; rfl))
    have HSt := Lib.hid (run_storeVar_row (P := Tryz.prog) _ w.heap.size 40 40 zHead zHead RO4.out (by rw [Tryz.sizeHd]; rfl) rfl (by simp [zHead, Value.oneCell']))
    clear OB BX RO1 B1
    go_wp2_with (first | ((with_reducible refine wpList_store_eq rfl 40 _ _ rfl ⟨w1.heap.size, 0, none⟩ ?_ ?_ HSn.out ?_); rfl; rfl) | ((with_reducible refine wpList_load_eq rfl 40 _ rfl ⟨w1.heap.size, 0, none⟩ ?_ HLd.out ?_); rfl) | ((with_reducible refine wpList_store_eq rfl 40 _ _ rfl ⟨w.heap.size, 0, none⟩ ?_ ?_ HSt.out ?_); rfl; rfl))
    refine bodyPost_ret (results_cell2 rfl _ _ w.heap.size _ zHead (0, 0) _ rfl (setRow_heap _ _ _ _ _ _ RO4.out) Tryz.underlying40 rfl (by rw [Tryz.sizeHd]; rfl)) rfl ?_
    rw [HK.out]
    exact ⟨rfl, B4.out.trans (below_set (Nat.le_refl _) _)⟩
end Go.Proofs.YtancidbbkoeokaaGreatDoor

/- Contracts of spec.Pad, impl.Pad and the law laws.FnExactPad: what each returns for every argument, the world unchanged. -/
namespace Go.Proofs.YtancidbbkoeokaaGreatDoor
open Go.ChangeShapes Go.WideShapes Go.ChangeAt Go.RowKit

def padv (n u : Int) : Int := if 0 ≤ n ∧ n ≤ 9007199254740991 ∧ 1 ≤ u ∧ u ≤ 512 then (u - n % u) % u else 0

theorem pad_impl (n u : Int) (w : World) : Calls Tryz.prog 44 #[.int .i64 n, .int .i64 u] w fun e w' => e = .returned (.int .i64 (padv n u)) ∧ w = w' := by
  by_cases h1 : 0 ≤ n
  · by_cases h2 : n ≤ 9007199254740991
    · by_cases h3 : 1 ≤ u
      · by_cases h4 : u ≤ 512
        · have hm := Int.emod_nonneg n (show u ≠ 0 by omega)
          have hl := Int.emod_lt_of_pos n (show 0 < u by omega)
          go_enter Tryz.func44, Tryz.ntmps44
          go_wp2
          go_ret
          exact ⟨ret_int (by simp [padv, *]), rfl⟩
        · go_enter Tryz.func44, Tryz.ntmps44
          go_wp2
          go_ret
          exact ⟨ret_int (by simp [padv]; omega), rfl⟩
      · go_enter Tryz.func44, Tryz.ntmps44
        go_wp2
        go_ret
        exact ⟨ret_int (by simp [padv]; omega), rfl⟩
    · go_enter Tryz.func44, Tryz.ntmps44
      go_wp2
      go_ret
      exact ⟨ret_int (by simp [padv]; omega), rfl⟩
  · go_enter Tryz.func44, Tryz.ntmps44
    go_wp2
    go_ret
    exact ⟨ret_int (by simp [padv]; omega), rfl⟩


theorem pad_spec (n u : Int) (w : World) : Calls Tryz.prog 41 #[.int .i64 n, .int .i64 u] w fun e w' => e = .returned (.int .i64 (padv n u)) ∧ w = w' := by
  by_cases h1 : 0 ≤ n ∧ n ≤ 9007199254740991
  · have i1 := inB_t h1
    by_cases h2 : 1 ≤ u ∧ u ≤ 512
    · have i2 := inB_t h2
      have hm := Int.emod_nonneg n (show u ≠ 0 by omega)
      have hl := Int.emod_lt_of_pos n (show 0 < u by omega)
      by_cases h3 : n % u = 0
      · have hz : (n % u == 0) = true := by simp [h3]
        have H := Lib.hid h3
        clear h3
        go_enter Tryz.func41, Tryz.ntmps41
        go_wp2_with (go_at_call 34; refine (in_any _ _ _ _).mono ?_; rintro e w' ⟨rfl, rfl⟩)
        go_ret
        exact ⟨ret_int (by simp [padv, H.out]), rfl⟩
      · have hz : (n % u == 0) = false := by simp [h3]
        go_enter Tryz.func41, Tryz.ntmps41
        go_wp2_with (go_at_call 34; refine (in_any _ _ _ _).mono ?_; rintro e w' ⟨rfl, rfl⟩)
        go_ret
        refine ⟨ret_int ?_, rfl⟩
        rw [padv, if_pos (by omega)]
        exact (Int.emod_eq_of_lt (a := u - n % u) (by omega) (by omega)).symm
    · have i2 := inB_f h2
      go_enter Tryz.func41, Tryz.ntmps41
      go_wp2_with (go_at_call 34; refine (in_any _ _ _ _).mono ?_; rintro e w' ⟨rfl, rfl⟩)
      go_ret
      exact ⟨ret_int (by simp [padv]; omega), rfl⟩
  · have i1 := inB_f h1
    go_enter Tryz.func41, Tryz.ntmps41
    go_wp2_with (go_at_call 34; refine (in_any _ _ _ _).mono ?_; rintro e w' ⟨rfl, rfl⟩)
    go_ret
    exact ⟨ret_int (by simp [padv]; omega), rfl⟩

end Go.Proofs.YtancidbbkoeokaaGreatDoor

/- A body and its padding: spec.l04Body, impl.nuls, impl.padded. -/
namespace Go.Proofs.YtancidbbkoeokaaGreatDoor
open Go.ChangeShapes Go.WideShapes Go.ChangeAt Go.RowKit

theorem pad_bd (n : Nat) : 0 ≤ padv n 512 ∧ padv n 512 ≤ 511 := by
  unfold padv
  split
  · have h1 := Int.emod_nonneg (512 - (n : Int) % 512) (by omega : (512 : Int) ≠ 0)
    have h2 := Int.emod_lt_of_pos (512 - (n : Int) % 512) (by omega : (0 : Int) < 512)
    omega
  · omega

def bodyP (s : ByteArray) : ByteArray := s ++ nulv (padv s.size 512).toNat
theorem body_size (s : ByteArray) : (bodyP s).size ≤ s.size + 511 := by
  rw [bodyP, ByteArray.size_append, nulv_size]
  have := pad_bd s.size
  omega
theorem fill_empty {n : Int} (h : n ≤ 1024) : fillv ⟨#[]⟩ n = nulv n.toNat := by
  unfold fillv
  have z : (⟨#[]⟩ : ByteArray).size = 0 := rfl
  by_cases q : n ≤ 0
  · rw [if_pos (.inr (by omega)), show n.toNat = 0 from by omega]; rfl
  · rw [if_neg (by omega), z]
    apply ba_ext
    simp
theorem nulsI_any (n : Int) (w : World) (hn : n ≤ 1024) :
    Calls Tryz.prog 26 #[.int .i64 n] w fun e w' => e = .returned (.string (nulv n.toNat)) ∧ Below w.heap.size w w' := by
  have H := Lib.hid (fun w => fill_impl ⟨#[]⟩ n w (by decide))
  rw [fill_empty hn] at H
  generalize nulv n.toNat = r at H
  go_enter Tryz.func26, Tryz.ntmps26
  go_wp2_with fail
  refine (H.out _).mono ?_
  rintro e w1 ⟨rfl, hb⟩
  go_wp2
  go_ret
  exact ⟨rfl, hb⟩
end Go.Proofs.YtancidbbkoeokaaGreatDoor

/- Contract of impl.readMember, for whatever readKnownHead answers. -/
namespace Go.Proofs.YtancidbbkoeokaaGreatDoor
open Go.ChangeShapes Go.WideShapes Go.ChangeAt Go.RowKit

theorem results_head3 {P : Program} {fn : Func} {p u1 u2 : Tmp} {ty : TypeId} (h : fn.results = #[.cell p ty, .tmp u1, .tmp u2]) (tmps : Array Value) (w : World) (g : Nat) (t : TypeId) (cs : Array Value) (fr : Nat × Nat) (d : TypeDesc)
    (hp : tmps.getD p undef = .pointer (some ⟨g, 0, none⟩)) (hg : w.heap[g]? = some (.cells cs t fr))
    (hu : P.underlying ty = some d) (hd : (match d with | .struct _ | .array _ _ => true | _ => false) = true) (hi : (P.info? ty).map (·.size) = some cs.size) :
    (results fn tmps).run P w = .ok (.tuple #[.agg cs, tmps.getD u1 undef, tmps.getD u2 undef]) w := by
  have hp' : tmps[p]?.getD undef = .pointer (some ⟨g, 0, none⟩) := by simpa using hp
  simp [results, h, hp', asAddr, run_loadVar_row w g t ty cs fr d hg hu hd hi]
theorem heap_setHd {w : World} {g i : Nat} {cs : Array Value} {t : TypeId} {v : Value} (h : w.heap[g]? = some (.cells cs t (0, 0))) : (w.setCell ⟨g, i, none⟩ v).heap[g]? = some (.cells (cs.setIfInBounds i v) t (0, 0)) := by
  have hlt : g < w.heap.size := (Array.getElem?_eq_some_iff.1 h).1
  have hg : w.heap[g] = .cells cs t (0, 0) := (Array.getElem?_eq_some_iff.1 h).2
  simp [World.setCell, hlt, Array.getElem_modify, hg]
theorem slHd_at (s : ByteArray) (x y : Int) (a b : Nat) (hx : x = (a : Int)) (hy : y = (b : Int)) (hab : a ≤ b) (hb : b ≤ s.size) (w : World) : (Instr.slice 9 (.string s) (some (.int .i64 x)) (some (.int .i64 y)) none).run Tryz.prog w = .ok (.string (s.extract a b)) w := by
  subst hx hy
  have := run_slice_string (P := Tryz.prog) (w := w) 9 s .i64 .i64 (a : Int) (b : Int) Tryz.underlying9 (by omega) (by omega) (by omega)
  rw [Int.toNat_natCast, Int.toNat_natCast] at this
  exact this
theorem subHd_i64 {P : Program} {a b c : Int} (w : World) (T : TypeId) (hc : c = a - b) (h0 : -9223372036854775808 ≤ c) (h1 : c ≤ 9223372036854775807) : (binOp .sub T (.int .i64 a) (.int .i64 b)).run P w = .ok (.int .i64 c) w := by
  subst hc
  have e : IntKind.i64.wrap (a - b) = a - b := by rw [IntKind.wrap_i64]; omega
  simp [binOp, go_sem, e]
/-- What readMember answers where it fails with a code. -/
def mbad (c : Int) : Value := .tuple #[.agg zHead, .int .i64 0, .iface 58 (.agg #[.int .i64 c])]
/-- How many bytes a member with that many bytes of data holds. -/
def usedv (z : Int) : Int := 512 + z + padv z 512
theorem padz_bd (n : Int) : 0 ≤ padv n 512 ∧ padv n 512 ≤ 511 := by
  unfold padv
  split
  · omega
  · omega
set_option maxHeartbeats 3200000 in
set_option maxRecDepth 8000 in
theorem readMember_end (w : World) :
    Calls Tryz.prog 27 #[.string ⟨#[]⟩, .func (.func 13) #[] #[]] w fun e w' => e = .returned (mbad 5) ∧ Below w.heap.size w w' := by
  have B0 := Lib.hid ((Below.refl w.heap.size w).alloc (Nat.le_refl _) (.cells zHead 40))
  have R0 : Hid ((w.alloc (.cells zHead 40)).heap[w.heap.size]? = some (.cells zHead 40 (0, 0))) := Lib.hid (heap_alloc_last _ _)
  have HSt := Lib.hid (run_storeVar_row (P := Tryz.prog) _ w.heap.size 40 40 zHead zHead R0.out (by rw [Tryz.sizeHd]; rfl) rfl (by simp [zHead, Value.oneCell']))
  go_enter Tryz.func27, Tryz.ntmps27
  go_wp2_with ((with_reducible refine wpList_store_eq rfl 40 _ _ rfl ⟨w.heap.size, 0, none⟩ ?_ ?_ HSt.out ?_); rfl; rfl)
  refine bodyPost_ret (results_head3 rfl _ _ w.heap.size _ zHead (0, 0) _ rfl (setRow_heap _ _ _ _ _ _ R0.out) Tryz.underlying40 rfl (by rw [Tryz.sizeHd]; rfl)) rfl ?_
  exact ⟨rfl, B0.out.trans (below_set (Nat.le_refl _) _)⟩
set_option maxHeartbeats 3200000 in
set_option maxRecDepth 8000 in
theorem readMember_bad (s : ByteArray) (c : Int) (w : World) (hs : 0 < s.size)
    (H1 : ∀ w', Below w.heap.size w w' → Calls Tryz.prog 13 #[.string s] w' fun e w2 => e = .returned (badHd c) ∧ Below w'.heap.size w' w2) :
    Calls Tryz.prog 27 #[.string s, .func (.func 13) #[] #[]] w fun e w' => e = .returned (mbad c) ∧ Below w.heap.size w w' := by
  rw [badHd] at H1
  have H1 := Lib.hid H1
  have hne : (s.toList == []) = false := lit_ne (l := []) (fun e => by rw [e] at hs; exact absurd hs (by decide))
  have B0 := Lib.hid ((Below.refl w.heap.size w).alloc (Nat.le_refl _) (.cells zHead 40))
  have R0 : Hid ((w.alloc (.cells zHead 40)).heap[w.heap.size]? = some (.cells zHead 40 (0, 0))) := Lib.hid (heap_alloc_last _ _)
  go_enter Tryz.func27, Tryz.ntmps27
  go_wp2_with fail
  refine (H1.out _ B0.out).mono ?_
  rintro e w1 ⟨rfl, hb1⟩
  have RO1 := Lib.hid ((hb1.block w.heap.size (by simp)).trans R0.out)
  have B1 := Lib.hid (B0.out.trans (hb1.mono (by simp)))
  clear hb1 R0 B0 H1
  have HSn := Lib.hid (run_storeVar_new (P := Tryz.prog) w1 40 zHead zHead (by rw [Tryz.sizeHd]; rfl) rfl (by simp [zHead, Value.oneCell']))
  have OB := heap_alloc_last w1 (.cells zHead 40)
  have BX := (Below.refl w1.heap.size w1).alloc (Nat.le_refl _) (.cells zHead 40)
  have RO4 := Lib.hid ((BX.block _ (obj_lt RO1.out)).trans RO1.out)
  have B4 := Lib.hid (B1.out.trans (BX.mono B1.out.size))
  have HSt := Lib.hid (run_storeVar_row (P := Tryz.prog) _ w.heap.size 40 40 zHead zHead RO4.out (by rw [Tryz.sizeHd]; rfl) rfl (by simp [zHead, Value.oneCell']))
  clear OB BX RO1 B1
  go_wp2_with (first | ((with_reducible refine wpList_store_eq rfl 40 _ _ rfl ⟨w1.heap.size, 0, none⟩ ?_ ?_ HSn.out ?_); rfl; rfl) | ((with_reducible refine wpList_store_eq rfl 40 _ _ rfl ⟨w.heap.size, 0, none⟩ ?_ ?_ HSt.out ?_); rfl; rfl))
  refine bodyPost_ret (results_head3 rfl _ _ w.heap.size _ zHead (0, 0) _ rfl (setRow_heap _ _ _ _ _ _ RO4.out) Tryz.underlying40 rfl (by rw [Tryz.sizeHd]; rfl)) rfl ?_
  exact ⟨rfl, B4.out.trans (below_set (Nat.le_refl _) _)⟩
/-- What readMember answers where the head is good. -/
def memOkV (s pth lk : ByteArray) (nm nu ng nt : Int) (us gr fl : ByteArray) (nz : Int) : Value :=
  if (s.size : Int) < usedv nz then mbad 1
  else if ¬ s.extract (512 + nz.toNat) (usedv nz).toNat = nulv (padv nz 512).toNat then mbad 4
  else .tuple #[.agg #[.int .i64 (max (kindv fl) 0), .string pth, .string lk, .int .i64 nm, .int .i64 nu, .int .i64 ng, .int .i64 nt, .string us, .string gr, .string (s.extract 512 (512 + nz.toNat)), .string fl, .int .i64 nz], .int .i64 (usedv nz), .nilIface]
set_option maxHeartbeats 6400000 in
set_option maxRecDepth 8000 in
theorem readMember_ok (s pth lk : ByteArray) (nm nu ng nt : Int) (us gr fl : ByteArray) (nz : Int) (w : World) (hs : s.size ≤ 1048576) (h5 : 512 ≤ s.size) (hz0 : 0 ≤ nz) (hz1 : nz ≤ 1048576)
    (H1 : ∀ w', Below w.heap.size w w' → Calls Tryz.prog 13 #[.string s] w' fun e w2 => e = .returned (.tuple #[.agg #[.int .i64 0, .string pth, .string lk, .int .i64 nm, .int .i64 nu, .int .i64 ng, .int .i64 nt, .string us, .string gr, .string ⟨#[]⟩, .string fl, .int .i64 nz], .nilIface]) ∧ Below w'.heap.size w' w2) :
    Calls Tryz.prog 27 #[.string s, .func (.func 13) #[] #[]] w fun e w' => e = .returned (memOkV s pth lk nm nu ng nt us gr fl nz) ∧ Below w.heap.size w w' := by
  have H1 := Lib.hid H1
  have hne : (s.toList == []) = false := lit_ne (l := []) (fun e => by rw [e] at h5; exact absurd h5 (by decide))
  have B0 := Lib.hid ((Below.refl w.heap.size w).alloc (Nat.le_refl _) (.cells zHead 40))
  have R0 : Hid ((w.alloc (.cells zHead 40)).heap[w.heap.size]? = some (.cells zHead 40 (0, 0))) := Lib.hid (heap_alloc_last _ _)
  have HPd := Lib.hid (fun w => pad_impl nz 512 w)
  have hpd := padz_bd nz
  have HR : Hid (memOkV s pth lk nm nu ng nt us gr fl nz = if (s.size : Int) < usedv nz then mbad 1 else if ¬ s.extract (512 + nz.toNat) (usedv nz).toNat = nulv (padv nz 512).toNat then mbad 4 else .tuple #[.agg #[.int .i64 (max (kindv fl) 0), .string pth, .string lk, .int .i64 nm, .int .i64 nu, .int .i64 ng, .int .i64 nt, .string us, .string gr, .string (s.extract 512 (512 + nz.toNat)), .string fl, .int .i64 nz], .int .i64 (usedv nz), .nilIface]) := Lib.hid rfl
  have HUs : Hid (usedv nz = 512 + nz + padv nz 512) := Lib.hid rfl
  have HNu := Lib.hid (fun w => nulsI_any (padv nz 512) w (by omega))
  have HKd := Lib.hid (fun w => kindOfI_any fl w)
  generalize memOkV s pth lk nm nu ng nt us gr fl nz = r at HR ⊢
  generalize max (kindv fl) 0 = kk at *
  generalize nulv (padv nz 512).toNat = nn at *
  generalize padv nz 512 = pd at *
  generalize usedv nz = u at *
  have hu := HUs.out
  obtain ⟨e9, he9⟩ : ∃ e : Int, e = 512 + nz := ⟨_, rfl⟩
  go_enter Tryz.func27, Tryz.ntmps27
  go_wp2_with fail
  refine (H1.out _ B0.out).mono ?_
  rintro e w1 ⟨rfl, hb1⟩
  have RO1 := Lib.hid ((hb1.block w.heap.size (by simp)).trans R0.out)
  have B1 := Lib.hid (B0.out.trans (hb1.mono (by simp)))
  clear hb1 R0 B0 H1
  have HSn := Lib.hid (run_storeVar_new (P := Tryz.prog) w1 40 zHead #[.int .i64 0, .string pth, .string lk, .int .i64 nm, .int .i64 nu, .int .i64 ng, .int .i64 nt, .string us, .string gr, .string ⟨#[]⟩, .string fl, .int .i64 nz] (by rw [Tryz.sizeHd]; rfl) rfl (by simp [Value.oneCell']))
  have OB := Lib.hid (heap_alloc_last w1 (.cells #[.int .i64 0, .string pth, .string lk, .int .i64 nm, .int .i64 nu, .int .i64 ng, .int .i64 nt, .string us, .string gr, .string ⟨#[]⟩, .string fl, .int .i64 nz] 40))
  have BX := (Below.refl w1.heap.size w1).alloc (Nat.le_refl _) (.cells #[.int .i64 0, .string pth, .string lk, .int .i64 nm, .int .i64 nu, .int .i64 ng, .int .i64 nt, .string us, .string gr, .string ⟨#[]⟩, .string fl, .int .i64 nz] 40)
  have RO4 := Lib.hid ((BX.block _ (obj_lt RO1.out)).trans RO1.out)
  have B4 := Lib.hid (B1.out.trans (BX.mono B1.out.size))
  have h14 : w.heap.size < w1.heap.size := obj_lt RO1.out
  have zz : w1.heap.size < (w1.alloc (.cells #[.int .i64 0, .string pth, .string lk, .int .i64 nm, .int .i64 nu, .int .i64 ng, .int .i64 nt, .string us, .string gr, .string ⟨#[]⟩, .string fl, .int .i64 nz] 40)).heap.size := obj_lt OB.out
  clear BX RO1 B1
  go_upto_region 4 with ((with_reducible refine wpList_store_eq rfl 40 _ _ rfl ⟨w1.heap.size, 0, none⟩ ?_ ?_ HSn.out ?_); rfl; rfl)
  have HW : Hid (w1.heap.size < (w1.alloc (.cells #[.int .i64 0, .string pth, .string lk, .int .i64 nm, .int .i64 nu, .int .i64 ng, .int .i64 nt, .string us, .string gr, .string ⟨#[]⟩, .string fl, .int .i64 nz] 40)).heap.size) := Lib.hid zz
  clear HSn zz
  generalize w1.alloc (.cells #[.int .i64 0, .string pth, .string lk, .int .i64 nm, .int .i64 nu, .int .i64 ng, .int .i64 nt, .string us, .string gr, .string ⟨#[]⟩, .string fl, .int .i64 nz] 40) = w4 at *
  have c11 : w4.cell? ⟨w1.heap.size, 11, none⟩ = some (.int .i64 nz) := by rw [cell_of_row _ _ _ _ _ _ OB.out]; rfl
  go_wp2_with fail
  refine (HPd.out _).mono ?_
  rintro e w5 ⟨rfl, rfl⟩
  by_cases hlt : (s.size : Int) < u
  · have HE := Lib.hid (HR.out.trans (if_pos hlt))
    have hq : (s.size : Int) < 512 + nz + pd := by omega
    have HSt := Lib.hid (run_storeVar_row (P := Tryz.prog) w4 w.heap.size 40 40 zHead zHead RO4.out (by rw [Tryz.sizeHd]; rfl) rfl (by simp [zHead, Value.oneCell']))
    clear HR
    go_wp2_with ((with_reducible refine wpList_store_eq rfl 40 _ _ rfl ⟨w.heap.size, 0, none⟩ ?_ ?_ HSt.out ?_); rfl; rfl)
    refine bodyPost_ret (results_head3 rfl _ _ w.heap.size _ zHead (0, 0) _ rfl (setRow_heap _ _ _ _ _ _ RO4.out) Tryz.underlying40 rfl (by rw [Tryz.sizeHd]; rfl)) rfl ?_
    rw [HE.out]
    exact ⟨rfl, B4.out.trans (below_set (Nat.le_refl _) _)⟩
  replace HR := Lib.hid (HR.out.trans (if_neg hlt))
  have hq : ¬ (s.size : Int) < 512 + nz + pd := by omega
  have HSl := Lib.hid (fun w => slHd_at s (512 + nz) (512 + nz + pd) (512 + nz.toNat) u.toNat (by omega) (by omega) (by omega) (by omega) w)
  have HS2 := Lib.hid (fun w => slHd_at s 512 (512 + nz) 512 (512 + nz.toNat) rfl (by omega) (by omega) (by omega) w)
  have zb : (s.extract 512 (512 + nz.toNat)).size ≤ 281474976710656 := by rw [ByteArray.size_extract]; omega
  have HSub := Lib.hid (fun w => subHd_i64 (P := Tryz.prog) (a := 512 + nz + pd) (b := 512 + nz) (c := pd) w 3 (by omega) (by omega) (by omega))
  generalize s.extract (512 + nz.toNat) u.toNat = tl at HSl HR
  generalize s.extract 512 (512 + nz.toNat) = bd at HS2 HR zb
  go_upto_region 10 with fail
  have KC : Hid (∀ w' : World, Below w4.heap.size w4 w' → True) := Lib.hid (fun _ _ => trivial)
  by_cases hnl : tl = nn
  · have hnq : (tl.toList == nn.toList) = true := ba_eq hnl
    replace HR := Lib.hid (HR.out.trans (if_neg (fun h => h hnl)))
    refine wp_region_inv (by kernel_rfl) (fun w' => Below w4.heap.size w4 w') (fun x y => Below x.heap.size x y) (fun dq vq _ => match dq with | 41 => vq = .string s | 42 => vq = .int .i64 (512 + nz) | 43 => vq = .int .i64 (512 + nz + pd) | 44 => vq = .string tl | 45 => vq = .int .i64 (512 + nz + pd) | 46 => vq = .int .i64 (512 + nz) | 47 => vq = .int .i64 pd | 48 => vq = .string nn | 49 => vq = .bool false | _ => True) (by kernel_rfl) ((Below.refl _ _).drew) (fun _ _ _ _ _ _ h => h) ?hops ?hend
    case hops =>
      simp only [List.forall_mem_cons]
      refine ⟨?o41, ?o42, ?o43, ?o44, ?o45, ?o46, ?o47, ?o48, ?o49, fun _ h => by cases h⟩
      case o41 =>
        intro Q a w2 hC hV hI
        have e0 : a.eval (.tmp 0) = .string s := (hI 0 (by simp [Op.operands]) (by kernel_rfl)).trans rfl
        have f0 : a.tmps.getD 0 undef = .string s := e0
        have g0 : a.tmps[0]?.getD undef = .string s := by rw [← Array.getD_eq_getD_getElem?]; exact e0
        refine op_val (.string s) ?_ hC (Below.refl _ _) (by intro d hd; cases hd; rfl)
        (clear hV hI hC; go_simp <;> (first | rfl | simp | (rw [IntKind.wrap_i64]; omega)))
      case o42 =>
        intro Q a w2 hC hV hI
        have e9 : a.eval (.tmp 9) = .int .i64 (512 + nz) := (hI 9 (by simp [Op.operands]) (by kernel_rfl)).trans rfl
        have f9 : a.tmps.getD 9 undef = .int .i64 (512 + nz) := e9
        have g9 : a.tmps[9]?.getD undef = .int .i64 (512 + nz) := by rw [← Array.getD_eq_getD_getElem?]; exact e9
        refine op_val (.int .i64 (512 + nz)) ?_ hC (Below.refl _ _) (by intro d hd; cases hd; rfl)
        (clear hV hI hC; go_simp <;> (first | rfl | simp | (rw [IntKind.wrap_i64]; omega)))
      case o43 =>
        intro Q a w2 hC hV hI
        have e10 : a.eval (.tmp 10) = .int .i64 (512 + nz + pd) := (hI 10 (by simp [Op.operands]) (by kernel_rfl)).trans rfl
        have f10 : a.tmps.getD 10 undef = .int .i64 (512 + nz + pd) := e10
        have g10 : a.tmps[10]?.getD undef = .int .i64 (512 + nz + pd) := by rw [← Array.getD_eq_getD_getElem?]; exact e10
        refine op_val (.int .i64 (512 + nz + pd)) ?_ hC (Below.refl _ _) (by intro d hd; cases hd; rfl)
        (clear hV hI hC; go_simp <;> (first | rfl | simp | (rw [IntKind.wrap_i64]; omega)))
      case o44 =>
        intro Q a w2 hC hV hI
        have e41 : a.eval (.tmp 41) = .string s := hV 41 (by simp [Op.operands]) (by kernel_rfl)
        have f41 : a.tmps.getD 41 undef = .string s := e41
        have g41 : a.tmps[41]?.getD undef = .string s := by rw [← Array.getD_eq_getD_getElem?]; exact e41
        have e42 : a.eval (.tmp 42) = .int .i64 (512 + nz) := hV 42 (by simp [Op.operands]) (by kernel_rfl)
        have f42 : a.tmps.getD 42 undef = .int .i64 (512 + nz) := e42
        have g42 : a.tmps[42]?.getD undef = .int .i64 (512 + nz) := by rw [← Array.getD_eq_getD_getElem?]; exact e42
        have e43 : a.eval (.tmp 43) = .int .i64 (512 + nz + pd) := hV 43 (by simp [Op.operands]) (by kernel_rfl)
        have f43 : a.tmps.getD 43 undef = .int .i64 (512 + nz + pd) := e43
        have g43 : a.tmps[43]?.getD undef = .int .i64 (512 + nz + pd) := by rw [← Array.getD_eq_getD_getElem?]; exact e43
        have q9 := HSl.out w2
        refine op_val (.string tl) ?_ hC (Below.refl _ _) (by intro d hd; cases hd; rfl)
        (clear hV hI hC; go_simp <;> (first | rfl | simp | (rw [IntKind.wrap_i64]; omega)))
      case o45 =>
        intro Q a w2 hC hV hI
        have e10 : a.eval (.tmp 10) = .int .i64 (512 + nz + pd) := (hI 10 (by simp [Op.operands]) (by kernel_rfl)).trans rfl
        have f10 : a.tmps.getD 10 undef = .int .i64 (512 + nz + pd) := e10
        have g10 : a.tmps[10]?.getD undef = .int .i64 (512 + nz + pd) := by rw [← Array.getD_eq_getD_getElem?]; exact e10
        refine op_val (.int .i64 (512 + nz + pd)) ?_ hC (Below.refl _ _) (by intro d hd; cases hd; rfl)
        (clear hV hI hC; go_simp <;> (first | rfl | simp | (rw [IntKind.wrap_i64]; omega)))
      case o46 =>
        intro Q a w2 hC hV hI
        have e9 : a.eval (.tmp 9) = .int .i64 (512 + nz) := (hI 9 (by simp [Op.operands]) (by kernel_rfl)).trans rfl
        have f9 : a.tmps.getD 9 undef = .int .i64 (512 + nz) := e9
        have g9 : a.tmps[9]?.getD undef = .int .i64 (512 + nz) := by rw [← Array.getD_eq_getD_getElem?]; exact e9
        refine op_val (.int .i64 (512 + nz)) ?_ hC (Below.refl _ _) (by intro d hd; cases hd; rfl)
        (clear hV hI hC; go_simp <;> (first | rfl | simp | (rw [IntKind.wrap_i64]; omega)))
      case o47 =>
        intro Q a w2 hC hV hI
        have e45 : a.eval (.tmp 45) = .int .i64 (512 + nz + pd) := hV 45 (by simp [Op.operands]) (by kernel_rfl)
        have f45 : a.tmps.getD 45 undef = .int .i64 (512 + nz + pd) := e45
        have g45 : a.tmps[45]?.getD undef = .int .i64 (512 + nz + pd) := by rw [← Array.getD_eq_getD_getElem?]; exact e45
        have e46 : a.eval (.tmp 46) = .int .i64 (512 + nz) := hV 46 (by simp [Op.operands]) (by kernel_rfl)
        have f46 : a.tmps.getD 46 undef = .int .i64 (512 + nz) := e46
        have g46 : a.tmps[46]?.getD undef = .int .i64 (512 + nz) := by rw [← Array.getD_eq_getD_getElem?]; exact e46
        have q9 := HSub.out w2
        refine op_val (.int .i64 pd) ?_ hC (Below.refl _ _) (by intro d hd; cases hd; rfl)
        (clear hV hI hC; go_simp <;> (first | rfl | simp | (rw [IntKind.wrap_i64]; omega)))
      case o48 =>
        intro Q a w2 hC hV hI
        have e47 : a.eval (.tmp 47) = .int .i64 pd := hV 47 (by simp [Op.operands, Call.operands]) (by kernel_rfl)
        have f47 : a.tmps.getD 47 undef = .int .i64 pd := e47
        have g47 : a.tmps[47]?.getD undef = .int .i64 pd := by rw [← Array.getD_eq_getD_getElem?]; exact e47
        refine op_call (f := 26) (args := #[.int .i64 pd]) (R := fun v y => v = .string nn ∧ Below w2.heap.size w2 y) ?_ ((HNu.out w2).mono ?_) ?_
        · (clear hV hI hC; go_simp <;> (first | rfl | simp | (rw [IntKind.wrap_i64]; omega)))
        · rintro e y ⟨rfl, hb⟩; exact ⟨_, rfl, rfl, hb⟩
        · rintro v y ⟨rfl, hb⟩; exact ⟨hC.trans (hb.mono hC.size), hb, by intro d hd; cases hd; rfl⟩
      case o49 =>
        intro Q a w2 hC hV hI
        have e44 : a.eval (.tmp 44) = .string tl := hV 44 (by simp [Op.operands]) (by kernel_rfl)
        have f44 : a.tmps.getD 44 undef = .string tl := e44
        have g44 : a.tmps[44]?.getD undef = .string tl := by rw [← Array.getD_eq_getD_getElem?]; exact e44
        have e48 : a.eval (.tmp 48) = .string nn := hV 48 (by simp [Op.operands]) (by kernel_rfl)
        have f48 : a.tmps.getD 48 undef = .string nn := e48
        have g48 : a.tmps[48]?.getD undef = .string nn := by rw [← Array.getD_eq_getD_getElem?]; exact e48
        refine op_val (.bool false) ?_ hC (Below.refl _ _) (by intro d hd; cases hd; rfl)
        (clear hV hI hC; go_simp <;> (first | rfl | simp | (rw [IntKind.wrap_i64]; omega)))
    case hend =>
      intro f w9 hC hall
      simp only [List.forall_mem_cons] at hall
      obtain ⟨h41, h42, h43, h44, h45, h46, h47, h48, h49, _⟩ := hall
      replace h41 : f 41 = .string s := h41 41 rfl
      replace h42 : f 42 = .int .i64 (512 + nz) := h42 42 rfl
      replace h43 : f 43 = .int .i64 (512 + nz + pd) := h43 43 rfl
      replace h44 : f 44 = .string tl := h44 44 rfl
      replace h45 : f 45 = .int .i64 (512 + nz + pd) := h45 45 rfl
      replace h46 : f 46 = .int .i64 (512 + nz) := h46 46 rfl
      replace h47 : f 47 = .int .i64 pd := h47 47 rfl
      replace h48 : f 48 = .string nn := h48 48 rfl
      replace h49 : f 49 = .bool false := h49 49 rfl
      simp only [putAll, Act.put, List.setIfInBounds_toArray, List.set_cons_succ, List.set_cons_zero, h41, h42, h43, h44, h45, h46, h47, h48, h49]
      clear h41 h42 h43 h44 h45 h46 h47 h48 h49
      have OB9 := Lib.hid ((hC.block w1.heap.size HW.out).trans OB.out)
      have RO9 := Lib.hid ((hC.block w.heap.size (by have := HW.out; omega)).trans RO4.out)
      have B9 := Lib.hid (B4.out.trans (hC.mono B4.out.size))
      clear hC OB RO4 B4
      have c10 : w9.cell? ⟨w1.heap.size, 10, none⟩ = some (.string fl) := by rw [cell_of_row _ _ _ _ _ _ OB9.out]; rfl
      have f0 : w9.frozen? ⟨w1.heap.size, 0, none⟩ = false := obj_frozen OB9.out
      have k0 : w9.cell? ⟨w1.heap.size, 0, none⟩ = some (.int .i64 0) := by rw [cell_of_row _ _ _ _ _ _ OB9.out]; rfl
      have E1 := Lib.hid (heap_setHd (i := 0) (v := .int .i64 kk) OB9.out)
      have R1 := Lib.hid ((Below.heap_setCell w9 ⟨w1.heap.size, 0, none⟩ (.int .i64 kk) w.heap.size (by show w.heap.size ≠ w1.heap.size; omega)).trans RO9.out)
      have B10 := Lib.hid (B9.out.setCell (p := ⟨w1.heap.size, 0, none⟩) (by show w.heap.size ≤ w1.heap.size; omega) (.int .i64 kk))
      go_wp2_with fail
      refine (HKd.out _).mono ?_
      rintro e w10 ⟨rfl, rfl⟩
      have hS2 := HS2.out
      go_wp2_with fail
      clear hS2
      generalize w9.setCell ⟨w1.heap.size, 0, none⟩ (.int .i64 kk) = w11 at *
      clear c10 f0 k0 OB9 RO9 B9
      refine (clone_any bd _ zb).mono ?_
      rintro e w12 ⟨rfl, hb⟩
      have E2 := Lib.hid ((hb.block _ (obj_lt E1.out)).trans E1.out)
      have R2 := Lib.hid ((hb.block _ (obj_lt R1.out)).trans R1.out)
      have B12 := Lib.hid (B10.out.trans (hb.mono B10.out.size))
      clear hb E1 R1 B10
      simp only [List.setIfInBounds_toArray, List.set_cons_zero] at E2
      have f9 : w12.frozen? ⟨w1.heap.size, 9, none⟩ = false := obj_frozen E2.out
      have k9 : w12.cell? ⟨w1.heap.size, 9, none⟩ = some (.string ⟨#[]⟩) := by rw [cell_of_row _ _ _ _ _ _ E2.out]; rfl
      have E3 := Lib.hid (heap_setHd (i := 9) (v := .string bd) E2.out)
      have R3 := Lib.hid ((Below.heap_setCell w12 ⟨w1.heap.size, 9, none⟩ (.string bd) w.heap.size (by show w.heap.size ≠ w1.heap.size; omega)).trans R2.out)
      have B13 := Lib.hid (B12.out.setCell (p := ⟨w1.heap.size, 9, none⟩) (by show w.heap.size ≤ w1.heap.size; omega) (.string bd))
      simp only [List.setIfInBounds_toArray, List.set_cons_zero, List.set_cons_succ] at E3
      go_upto_region 14 with fail
      clear f9 k9 E2 R2 B12
      generalize w12.setCell ⟨w1.heap.size, 9, none⟩ (.string bd) = w13 at *
      have HLd := Lib.hid (run_loadVar_row (P := Tryz.prog) _ _ 40 40 _ (0, 0) _ E3.out Tryz.underlying40 rfl (by rw [Tryz.sizeHd]; rfl))
      have HSt := Lib.hid (run_storeVar_row (P := Tryz.prog) w13 w.heap.size 40 40 zHead #[.int .i64 kk, .string pth, .string lk, .int .i64 nm, .int .i64 nu, .int .i64 ng, .int .i64 nt, .string us, .string gr, .string bd, .string fl, .int .i64 nz] R3.out (by rw [Tryz.sizeHd]; rfl) rfl (by simp [Value.oneCell']))
      go_wp2_with (first | ((with_reducible refine wpList_load_eq rfl 40 _ rfl ⟨w1.heap.size, 0, none⟩ ?_ HLd.out ?_); rfl) | ((with_reducible refine wpList_store_eq rfl 40 _ _ rfl ⟨w.heap.size, 0, none⟩ ?_ ?_ HSt.out ?_); rfl; rfl))
      refine bodyPost_ret (results_head3 rfl _ _ w.heap.size _ #[.int .i64 kk, .string pth, .string lk, .int .i64 nm, .int .i64 nu, .int .i64 ng, .int .i64 nt, .string us, .string gr, .string bd, .string fl, .int .i64 nz] (0, 0) _ rfl (setRow_heap _ _ _ _ _ _ R3.out) Tryz.underlying40 rfl (by rw [Tryz.sizeHd]; rfl)) rfl ?_
      rw [HR.out, hu]
      exact ⟨rfl, B13.out.trans (below_set (Nat.le_refl _) _)⟩
  · have hnq : (tl.toList == nn.toList) = false := ba_ne hnl
    have HE := Lib.hid (HR.out.trans (if_pos hnl))
    clear HR
    refine wp_region_inv (by kernel_rfl) (fun w' => Below w4.heap.size w4 w') (fun x y => Below x.heap.size x y) (fun dq vq _ => match dq with | 41 => vq = .string s | 42 => vq = .int .i64 (512 + nz) | 43 => vq = .int .i64 (512 + nz + pd) | 44 => vq = .string tl | 45 => vq = .int .i64 (512 + nz + pd) | 46 => vq = .int .i64 (512 + nz) | 47 => vq = .int .i64 pd | 48 => vq = .string nn | 49 => vq = .bool true | _ => True) (by kernel_rfl) ((Below.refl _ _).drew) (fun _ _ _ _ _ _ h => h) ?hops ?hend
    case hops =>
      simp only [List.forall_mem_cons]
      refine ⟨?o41, ?o42, ?o43, ?o44, ?o45, ?o46, ?o47, ?o48, ?o49, fun _ h => by cases h⟩
      case o41 =>
        intro Q a w2 hC hV hI
        have e0 : a.eval (.tmp 0) = .string s := (hI 0 (by simp [Op.operands]) (by kernel_rfl)).trans rfl
        have f0 : a.tmps.getD 0 undef = .string s := e0
        have g0 : a.tmps[0]?.getD undef = .string s := by rw [← Array.getD_eq_getD_getElem?]; exact e0
        refine op_val (.string s) ?_ hC (Below.refl _ _) (by intro d hd; cases hd; rfl)
        (clear hV hI hC; go_simp <;> (first | rfl | simp | (rw [IntKind.wrap_i64]; omega)))
      case o42 =>
        intro Q a w2 hC hV hI
        have e9 : a.eval (.tmp 9) = .int .i64 (512 + nz) := (hI 9 (by simp [Op.operands]) (by kernel_rfl)).trans rfl
        have f9 : a.tmps.getD 9 undef = .int .i64 (512 + nz) := e9
        have g9 : a.tmps[9]?.getD undef = .int .i64 (512 + nz) := by rw [← Array.getD_eq_getD_getElem?]; exact e9
        refine op_val (.int .i64 (512 + nz)) ?_ hC (Below.refl _ _) (by intro d hd; cases hd; rfl)
        (clear hV hI hC; go_simp <;> (first | rfl | simp | (rw [IntKind.wrap_i64]; omega)))
      case o43 =>
        intro Q a w2 hC hV hI
        have e10 : a.eval (.tmp 10) = .int .i64 (512 + nz + pd) := (hI 10 (by simp [Op.operands]) (by kernel_rfl)).trans rfl
        have f10 : a.tmps.getD 10 undef = .int .i64 (512 + nz + pd) := e10
        have g10 : a.tmps[10]?.getD undef = .int .i64 (512 + nz + pd) := by rw [← Array.getD_eq_getD_getElem?]; exact e10
        refine op_val (.int .i64 (512 + nz + pd)) ?_ hC (Below.refl _ _) (by intro d hd; cases hd; rfl)
        (clear hV hI hC; go_simp <;> (first | rfl | simp | (rw [IntKind.wrap_i64]; omega)))
      case o44 =>
        intro Q a w2 hC hV hI
        have e41 : a.eval (.tmp 41) = .string s := hV 41 (by simp [Op.operands]) (by kernel_rfl)
        have f41 : a.tmps.getD 41 undef = .string s := e41
        have g41 : a.tmps[41]?.getD undef = .string s := by rw [← Array.getD_eq_getD_getElem?]; exact e41
        have e42 : a.eval (.tmp 42) = .int .i64 (512 + nz) := hV 42 (by simp [Op.operands]) (by kernel_rfl)
        have f42 : a.tmps.getD 42 undef = .int .i64 (512 + nz) := e42
        have g42 : a.tmps[42]?.getD undef = .int .i64 (512 + nz) := by rw [← Array.getD_eq_getD_getElem?]; exact e42
        have e43 : a.eval (.tmp 43) = .int .i64 (512 + nz + pd) := hV 43 (by simp [Op.operands]) (by kernel_rfl)
        have f43 : a.tmps.getD 43 undef = .int .i64 (512 + nz + pd) := e43
        have g43 : a.tmps[43]?.getD undef = .int .i64 (512 + nz + pd) := by rw [← Array.getD_eq_getD_getElem?]; exact e43
        have q9 := HSl.out w2
        refine op_val (.string tl) ?_ hC (Below.refl _ _) (by intro d hd; cases hd; rfl)
        (clear hV hI hC; go_simp <;> (first | rfl | simp | (rw [IntKind.wrap_i64]; omega)))
      case o45 =>
        intro Q a w2 hC hV hI
        have e10 : a.eval (.tmp 10) = .int .i64 (512 + nz + pd) := (hI 10 (by simp [Op.operands]) (by kernel_rfl)).trans rfl
        have f10 : a.tmps.getD 10 undef = .int .i64 (512 + nz + pd) := e10
        have g10 : a.tmps[10]?.getD undef = .int .i64 (512 + nz + pd) := by rw [← Array.getD_eq_getD_getElem?]; exact e10
        refine op_val (.int .i64 (512 + nz + pd)) ?_ hC (Below.refl _ _) (by intro d hd; cases hd; rfl)
        (clear hV hI hC; go_simp <;> (first | rfl | simp | (rw [IntKind.wrap_i64]; omega)))
      case o46 =>
        intro Q a w2 hC hV hI
        have e9 : a.eval (.tmp 9) = .int .i64 (512 + nz) := (hI 9 (by simp [Op.operands]) (by kernel_rfl)).trans rfl
        have f9 : a.tmps.getD 9 undef = .int .i64 (512 + nz) := e9
        have g9 : a.tmps[9]?.getD undef = .int .i64 (512 + nz) := by rw [← Array.getD_eq_getD_getElem?]; exact e9
        refine op_val (.int .i64 (512 + nz)) ?_ hC (Below.refl _ _) (by intro d hd; cases hd; rfl)
        (clear hV hI hC; go_simp <;> (first | rfl | simp | (rw [IntKind.wrap_i64]; omega)))
      case o47 =>
        intro Q a w2 hC hV hI
        have e45 : a.eval (.tmp 45) = .int .i64 (512 + nz + pd) := hV 45 (by simp [Op.operands]) (by kernel_rfl)
        have f45 : a.tmps.getD 45 undef = .int .i64 (512 + nz + pd) := e45
        have g45 : a.tmps[45]?.getD undef = .int .i64 (512 + nz + pd) := by rw [← Array.getD_eq_getD_getElem?]; exact e45
        have e46 : a.eval (.tmp 46) = .int .i64 (512 + nz) := hV 46 (by simp [Op.operands]) (by kernel_rfl)
        have f46 : a.tmps.getD 46 undef = .int .i64 (512 + nz) := e46
        have g46 : a.tmps[46]?.getD undef = .int .i64 (512 + nz) := by rw [← Array.getD_eq_getD_getElem?]; exact e46
        have q9 := HSub.out w2
        refine op_val (.int .i64 pd) ?_ hC (Below.refl _ _) (by intro d hd; cases hd; rfl)
        (clear hV hI hC; go_simp <;> (first | rfl | simp | (rw [IntKind.wrap_i64]; omega)))
      case o48 =>
        intro Q a w2 hC hV hI
        have e47 : a.eval (.tmp 47) = .int .i64 pd := hV 47 (by simp [Op.operands, Call.operands]) (by kernel_rfl)
        have f47 : a.tmps.getD 47 undef = .int .i64 pd := e47
        have g47 : a.tmps[47]?.getD undef = .int .i64 pd := by rw [← Array.getD_eq_getD_getElem?]; exact e47
        refine op_call (f := 26) (args := #[.int .i64 pd]) (R := fun v y => v = .string nn ∧ Below w2.heap.size w2 y) ?_ ((HNu.out w2).mono ?_) ?_
        · (clear hV hI hC; go_simp <;> (first | rfl | simp | (rw [IntKind.wrap_i64]; omega)))
        · rintro e y ⟨rfl, hb⟩; exact ⟨_, rfl, rfl, hb⟩
        · rintro v y ⟨rfl, hb⟩; exact ⟨hC.trans (hb.mono hC.size), hb, by intro d hd; cases hd; rfl⟩
      case o49 =>
        intro Q a w2 hC hV hI
        have e44 : a.eval (.tmp 44) = .string tl := hV 44 (by simp [Op.operands]) (by kernel_rfl)
        have f44 : a.tmps.getD 44 undef = .string tl := e44
        have g44 : a.tmps[44]?.getD undef = .string tl := by rw [← Array.getD_eq_getD_getElem?]; exact e44
        have e48 : a.eval (.tmp 48) = .string nn := hV 48 (by simp [Op.operands]) (by kernel_rfl)
        have f48 : a.tmps.getD 48 undef = .string nn := e48
        have g48 : a.tmps[48]?.getD undef = .string nn := by rw [← Array.getD_eq_getD_getElem?]; exact e48
        refine op_val (.bool true) ?_ hC (Below.refl _ _) (by intro d hd; cases hd; rfl)
        (clear hV hI hC; go_simp <;> (first | rfl | simp | (rw [IntKind.wrap_i64]; omega)))
    case hend =>
      intro f w9 hC hall
      simp only [List.forall_mem_cons] at hall
      obtain ⟨h41, h42, h43, h44, h45, h46, h47, h48, h49, _⟩ := hall
      replace h41 : f 41 = .string s := h41 41 rfl
      replace h42 : f 42 = .int .i64 (512 + nz) := h42 42 rfl
      replace h43 : f 43 = .int .i64 (512 + nz + pd) := h43 43 rfl
      replace h44 : f 44 = .string tl := h44 44 rfl
      replace h45 : f 45 = .int .i64 (512 + nz + pd) := h45 45 rfl
      replace h46 : f 46 = .int .i64 (512 + nz) := h46 46 rfl
      replace h47 : f 47 = .int .i64 pd := h47 47 rfl
      replace h48 : f 48 = .string nn := h48 48 rfl
      replace h49 : f 49 = .bool true := h49 49 rfl
      simp only [putAll, Act.put, List.setIfInBounds_toArray, List.set_cons_succ, List.set_cons_zero, h41, h42, h43, h44, h45, h46, h47, h48, h49]
      clear h41 h42 h43 h44 h45 h46 h47 h48 h49
      have OB9 := Lib.hid ((hC.block w1.heap.size HW.out).trans OB.out)
      have RO9 := Lib.hid ((hC.block w.heap.size (by have := HW.out; omega)).trans RO4.out)
      have B9 := Lib.hid (B4.out.trans (hC.mono B4.out.size))
      clear hC OB RO4 B4
      have HSt := Lib.hid (run_storeVar_row (P := Tryz.prog) w9 w.heap.size 40 40 zHead zHead RO9.out (by rw [Tryz.sizeHd]; rfl) rfl (by simp [zHead, Value.oneCell']))
      go_wp2_with ((with_reducible refine wpList_store_eq rfl 40 _ _ rfl ⟨w.heap.size, 0, none⟩ ?_ ?_ HSt.out ?_); rfl; rfl)
      refine bodyPost_ret (results_head3 rfl _ _ w.heap.size _ zHead (0, 0) _ rfl (setRow_heap _ _ _ _ _ _ RO9.out) Tryz.underlying40 rfl (by rw [Tryz.sizeHd]; rfl)) rfl ?_
      rw [HE.out]
      exact ⟨rfl, B9.out.trans (below_set (Nat.le_refl _) _)⟩
  end Go.Proofs.YtancidbbkoeokaaGreatDoor

/- Small functions of cards with hexadecimal numbers: magic, padding, sums. -/
namespace Go.Proofs.YtancidbbkoeokaaGreatDoor
open Go.ChangeShapes Go.WideShapes Go.ChangeAt Go.RowKit

theorem sumL_spec (s : ByteArray) (w : World) (hs : s.size ≤ 4194304) :
    Calls Tryz.prog 32 #[.string s] w fun e w' => e = .returned (.int .i64 (sumv s.data.toList)) ∧ w = w' := by
  go_enter Tryz.func32, Tryz.ntmps32
  go_wp2
  go_loop [3, 4] (fun n i => ∃ k : Nat, k ≤ s.size ∧ i = .int .i64 k ∧ n = .int .i64 (sumv (s.data.toList.take k))) (fun _ i => s.size - (intOf i).toNat)
  case atStart => exact ⟨0, Nat.zero_le _, rfl, rfl⟩
  case round =>
    obtain ⟨k, hk, rfl, rfl⟩ := hrel
    have hd := sumv_bd (s.data.toList.take k)
    have hl : (s.data.toList.take k).length ≤ k := List.length_take_le _ _
    by_cases hlt : k < s.size
    · have HS := Lib.hid (show sumv (s.data.toList.take (k + 1)) = sumv (s.data.toList.take k) + (s[k].toNat : Int) by rw [take_snoc s k hlt]; exact sumv_snoc _ _)
      have hc := UInt8.toNat_lt s[k]
      go_wp2
      go_round
      case rel => exact ⟨k + 1, by omega, by go_num, by rw [HS.out]⟩
      case measure => simp [intOf]; omega
    · go_wp2
      go_ret
      exact ⟨ret_int (by rw [List.take_of_length_le (by simp; omega)]), rfl⟩

theorem sumL_impl (s : ByteArray) (w : World) (hs : s.size ≤ 4194304) :
    Calls Tryz.prog 123 #[.string s] w fun e w' => e = .returned (.int .i64 (sumv s.data.toList)) ∧ w = w' := by
  go_enter Tryz.func123, Tryz.ntmps123
  go_wp2
  go_loop [3, 7] (fun n i => ∃ k : Nat, k ≤ s.size ∧ i = .int .i64 k ∧ n = .int .i64 (sumv (s.data.toList.take k))) (fun _ i => s.size - (intOf i).toNat)
  case atStart => exact ⟨0, Nat.zero_le _, rfl, rfl⟩
  case round =>
    obtain ⟨k, hk, rfl, rfl⟩ := hrel
    have hd := sumv_bd (s.data.toList.take k)
    have hl : (s.data.toList.take k).length ≤ k := List.length_take_le _ _
    by_cases hlt : k < s.size
    · have HS := Lib.hid (show sumv (s.data.toList.take (k + 1)) = sumv (s.data.toList.take k) + (s[k].toNat : Int) by rw [take_snoc s k hlt]; exact sumv_snoc _ _)
      have hc := UInt8.toNat_lt s[k]
      go_wp2
      go_round
      case rel => exact ⟨k + 1, by omega, by go_num, by rw [HS.out]⟩
      case measure => simp [intOf]; omega
    · go_wp2
      go_ret
      exact ⟨ret_int (by rw [List.take_of_length_le (by simp; omega)]), rfl⟩

def mgN (crc : Bool) : ByteArray := if crc then ⟨#[48, 55, 48, 55, 48, 50]⟩ else ⟨#[48, 55, 48, 55, 48, 49]⟩
theorem mgN_size (crc : Bool) : (mgN crc).size = 6 := by cases crc <;> rfl
def pad4 (n : Nat) : Nat := (4 - n % 4) % 4
theorem padv4 (n : Nat) (h : n ≤ 9007199254740991) : padv (n : Int) 4 = (pad4 n : Int) := by
  unfold padv pad4
  rw [if_pos (by omega)]
  omega
theorem pad4_le (n : Nat) : pad4 n ≤ 3 := by unfold pad4; omega
def nulN (n : Nat) : ByteArray := ⟨(List.replicate n 0).toArray⟩
theorem nulN_size (n : Nat) : (nulN n).size = n := by
  show (List.replicate n (0 : UInt8)).toArray.size = n
  rw [List.size_toArray, List.length_replicate]
theorem sumv_zero : ∀ (l : List UInt8), sumv l = 0 ↔ l = List.replicate l.length 0 := by
  intro l
  induction l with
  | nil => exact ⟨fun _ => rfl, fun _ => rfl⟩
  | cons c l ih =>
    have h1 := sumv_bd l
    have e : sumv (c :: l) = (c.toNat : Int) + sumv l := by simp [sumv]
    rw [e, List.length_cons, List.replicate_succ]
    constructor
    · intro h
      have hc : c.toNat = 0 := by omega
      have hl : sumv l = 0 := by omega
      have hc0 : c = 0 := UInt8.toNat_inj.1 hc
      rw [hc0, ← ih.1 hl]
    · intro h
      injection h with h2 h3
      rw [ih.2 h3, h2]
      rfl
def isNul (s : ByteArray) : Bool := decide (sumv s.data.toList = 0)
theorem nulN_list (n : Nat) : (nulN n).data.toList = List.replicate n 0 := rfl
theorem isNul_iff (s : ByteArray) : isNul s = true ↔ s = nulN s.size := by
  have hz : s.data.toList.length = s.size := Array.length_toList
  unfold isNul
  rw [decide_eq_true_iff, sumv_zero, hz]
  constructor
  · intro h
    exact ba_ext (h.trans (nulN_list s.size).symm)
  · intro h
    have h2 := congrArg (fun b : ByteArray => b.data.toList) h
    exact h2.trans (nulN_list s.size)
def sumN (crc : Bool) (d : ByteArray) : Int := if crc then sumv d.data.toList else 0
theorem nulN_lit : nulN 0 = ⟨#[]⟩ ∧ nulN 1 = ⟨#[0]⟩ ∧ nulN 2 = ⟨#[0, 0]⟩ ∧ nulN 3 = ⟨#[0, 0, 0]⟩ := ⟨rfl, rfl, rfl, rfl⟩
end Go.Proofs.YtancidbbkoeokaaGreatDoor

/- Contracts of spec.l04Take and spec.l04End: a member's data with its NULs, and whether an archive ends at a place. -/
namespace Go.Proofs.YtancidbbkoeokaaGreatDoor
open Go.ChangeShapes Go.WideShapes Go.ChangeAt Go.RowKit

theorem blankS_any (t : ByteArray) (w : World) (h : t.size ≤ 1048576) : Calls Tryz.prog 18 #[.string t] w fun e w' => e = .returned (.bool (isNul t)) ∧ w = w' := by
  have H := Lib.hid (fun w => sum_spec t w h)
  have HE : Hid (isNul t = decide (sumv t.data.toList = 0)) := Lib.hid rfl
  generalize isNul t = r at HE
  generalize sumv t.data.toList = q at H HE
  by_cases hq : q = 0
  · have e1 : (q == 0) = true := by simpa using hq
    rw [decide_eq_true hq] at HE
    subst hq
    go_enter Tryz.func18, Tryz.ntmps18
    go_wp2_with fail
    refine (H.out _).mono ?_
    rintro e w1 ⟨rfl, rfl⟩
    go_wp2_with fail
    go_ret
    exact ⟨by rw [HE.out]; rfl, rfl⟩
  · have e1 : (q == 0) = false := by simpa using hq
    rw [decide_eq_false hq] at HE
    go_enter Tryz.func18, Tryz.ntmps18
    go_wp2_with fail
    refine (H.out _).mono ?_
    rintro e w1 ⟨rfl, rfl⟩
    go_wp2_with fail
    go_ret
    exact ⟨by rw [HE.out]; rfl, rfl⟩
/-- What l04Take answers of z bytes at a. -/
def takeV (s : ByteArray) (a z : Nat) : ByteArray × Int × Int :=
  if (s.size : Int) < a + z + padv z 512 then (⟨#[]⟩, a, 1)
  else if isNul (s.extract (a + z) (a + z + padv z 512).toNat) = false then (⟨#[]⟩, a, 4)
  else (s.extract a (a + z), a + z + padv z 512, 0)
set_option maxHeartbeats 1600000 in
theorem take_spec (s : ByteArray) (a z : Nat) (w : World) (hs : s.size ≤ 1048576) (ha : a ≤ s.size) (hz : z ≤ 1048576) :
    Calls Tryz.prog 23 #[.string s, .int .i64 (a : Int), .int .i64 (z : Int)] w fun e w' => e = .returned (.tuple #[.string (takeV s a z).1, .int .i64 (takeV s a z).2.1, .int .i64 (takeV s a z).2.2]) ∧ w = w' := by
  have HPd := Lib.hid (fun w => pad_spec (z : Int) 512 w)
  have hpd := padz_bd (z : Int)
  have HR : Hid (takeV s a z = if (s.size : Int) < a + z + padv z 512 then (⟨#[]⟩, (a : Int), 1) else if isNul (s.extract (a + z) (a + z + padv z 512).toNat) = false then (⟨#[]⟩, (a : Int), 4) else (s.extract a (a + z), a + z + padv z 512, 0)) := Lib.hid rfl
  generalize takeV s a z = r at HR ⊢
  generalize padv (z : Int) 512 = pd at *
  have a1 : IntKind.i64.wrap ((a : Int) + z) = (a : Int) + z := by rw [IntKind.wrap_i64]; omega
  have a2 : IntKind.i64.wrap ((a : Int) + z + pd) = (a : Int) + z + pd := by rw [IntKind.wrap_i64]; omega
  by_cases hlt : (s.size : Int) < a + z + pd
  · have HE := Lib.hid (HR.out.trans (if_pos hlt))
    clear HR
    go_enter Tryz.func23, Tryz.ntmps23
    go_wp2_with fail
    refine (HPd.out _).mono ?_
    rintro e w1 ⟨rfl, rfl⟩
    go_wp2_with fail
    go_ret3
    exact ⟨by rw [HE.out]; rfl, rfl⟩
  replace HR := Lib.hid (HR.out.trans (if_neg hlt))
  have HSl := Lib.hid (fun w => slHd_at s (a + z) (a + z + pd) (a + z) (a + z + pd).toNat (by omega) (by omega) (by omega) (by omega) w)
  have HS2 := Lib.hid (fun w => slHd_at s a (a + z) a (a + z) rfl (by omega) (by omega) (by omega) w)
  have HB := Lib.hid (fun w => blankS_any (s.extract (a + z) (a + z + pd).toNat) w (by rw [ByteArray.size_extract]; omega))
  generalize s.extract (a + z) (a + z + pd).toNat = tl at HSl HR HB
  generalize s.extract a (a + z) = bd at HS2 HR
  generalize isNul tl = b at HB HR
  have hS1 := HSl.out
  have hS2 := HS2.out
  go_enter Tryz.func23, Tryz.ntmps23
  go_wp2_with fail
  refine (HPd.out _).mono ?_
  rintro e w1 ⟨rfl, rfl⟩
  go_wp2_with fail
  refine (HB.out _).mono ?_
  rintro e w1 ⟨rfl, rfl⟩
  cases b with
  | false =>
    go_wp2_with fail
    go_ret3
    exact ⟨by rw [HR.out]; rfl, rfl⟩
  | true =>
    go_wp2_with fail
    go_ret3
    exact ⟨by rw [HR.out]; rfl, rfl⟩
end Go.Proofs.YtancidbbkoeokaaGreatDoor

/- Contract of spec.l04End: whether an archive ends at a place. -/
namespace Go.Proofs.YtancidbbkoeokaaGreatDoor
open Go.ChangeShapes Go.WideShapes Go.ChangeAt Go.RowKit

/-- What l04End answers at a. -/
def endV (s : ByteArray) (a : Nat) : Bool × Int :=
  if s.size ≤ a then (true, 5)
  else if s.size < a + 512 then (false, 0)
  else if isNul (s.extract a (a + 512)) = false then (false, 0)
  else if s.size - a = 1024 ∧ isNul (s.extract a s.size) = true then (true, 0)
  else (true, 5)
theorem slEnd_at (s : ByteArray) (a : Nat) (h : a ≤ s.size) (w : World) : (Instr.slice 9 (.string s) (some (.int .i64 (a : Int))) none none).run Tryz.prog w = .ok (.string (s.extract a s.size)) w := by
  have h1 := run_slice_string_l (P := Tryz.prog) (w := w) (t := 9) (s := s) Tryz.underlying9 .i64 (a : Int) (by omega) (by omega)
  rw [Int.toNat_natCast] at h1
  exact h1
set_option maxHeartbeats 1600000 in
theorem end_spec (s : ByteArray) (a : Nat) (w : World) (hs : s.size ≤ 1048576) (ha : a ≤ 4194304) :
    Calls Tryz.prog 9 #[.string s, .int .i64 (a : Int)] w fun e w' => e = .returned (.tuple #[.bool (endV s a).1, .int .i64 (endV s a).2]) ∧ w = w' := by
  have a1 : IntKind.i64.wrap ((a : Int) + 512) = (a : Int) + 512 := by rw [IntKind.wrap_i64]; omega
  have a2 : IntKind.i64.wrap ((s.size : Int) - a) = (s.size : Int) - a := by rw [IntKind.wrap_i64]; omega
  by_cases h1 : s.size ≤ a
  · have HE : Hid (endV s a = (true, 5)) := Lib.hid (by rw [endV, if_pos h1])
    generalize endV s a = r at HE ⊢
    have q1 : (s.size : Int) ≤ a := by omega
    go_enter Tryz.func9, Tryz.ntmps9
    go_wp2_with fail
    go_ret2
    exact ⟨by rw [HE.out]; rfl, rfl⟩
  have q1 : ¬ (s.size : Int) ≤ a := by omega
  by_cases h2 : s.size < a + 512
  · have HE : Hid (endV s a = (false, 0)) := Lib.hid (by rw [endV, if_neg h1, if_pos h2])
    generalize endV s a = r at HE ⊢
    have q2 : (s.size : Int) < (a : Int) + 512 := by omega
    go_enter Tryz.func9, Tryz.ntmps9
    go_wp2_with fail
    go_ret2
    exact ⟨by rw [HE.out]; rfl, rfl⟩
  have q2 : ¬ (s.size : Int) < (a : Int) + 512 := by omega
  have HR : Hid (endV s a = if isNul (s.extract a (a + 512)) = false then (false, 0) else if s.size - a = 1024 ∧ isNul (s.extract a s.size) = true then (true, 0) else (true, 5)) := Lib.hid (by rw [endV, if_neg h1, if_neg h2])
  generalize endV s a = r at HR ⊢
  have hS1 := fun w => slHd_at s a ((a : Int) + 512) a (a + 512) rfl (by omega) (by omega) (by omega) w
  have hS2 := fun w => slEnd_at s a (by omega) w
  have HB1 := Lib.hid (fun w => blankS_any (s.extract a (a + 512)) w (by rw [ByteArray.size_extract]; omega))
  have HB2 := Lib.hid (fun w => blankS_any (s.extract a s.size) w (by rw [ByteArray.size_extract]; omega))
  generalize s.extract a (a + 512) = t1 at hS1 HB1 HR
  generalize s.extract a s.size = t2 at hS2 HB2 HR
  generalize isNul t1 = b1 at HB1 HR
  generalize isNul t2 = b2 at HB2 HR
  cases b1 with
  | false =>
    go_enter Tryz.func9, Tryz.ntmps9
    go_wp2_with fail
    refine (HB1.out _).mono ?_
    rintro e w1 ⟨rfl, rfl⟩
    go_wp2_with fail
    go_ret2
    exact ⟨by rw [HR.out]; rfl, rfl⟩
  | true =>
    by_cases h3 : s.size - a = 1024
    · have q3 : ((s.size : Int) - a == 1024) = true := by simp; omega
      replace HR := Lib.hid (HR.out.trans (if_neg (by decide)))
      go_enter Tryz.func9, Tryz.ntmps9
      go_wp2_with fail
      refine (HB1.out _).mono ?_
      rintro e w1 ⟨rfl, rfl⟩
      go_wp2_with fail
      refine (HB2.out _).mono ?_
      rintro e w1 ⟨rfl, rfl⟩
      cases b2 with
      | false =>
        go_wp2_with fail
        go_ret2
        exact ⟨by rw [HR.out, if_neg (by simp)]; rfl, rfl⟩
      | true =>
        go_wp2_with fail
        go_ret2
        exact ⟨by rw [HR.out, if_pos ⟨h3, trivial⟩]; rfl, rfl⟩
    · have q3 : ((s.size : Int) - a == 1024) = false := by simp; omega
      replace HR := Lib.hid ((HR.out.trans (if_neg (by decide))).trans (if_neg (fun h => h3 h.1)))
      go_enter Tryz.func9, Tryz.ntmps9
      go_wp2_with fail
      refine (HB1.out _).mono ?_
      rintro e w1 ⟨rfl, rfl⟩
      go_wp2_with fail
      go_ret2
      exact ⟨by rw [HR.out]; rfl, rfl⟩
end Go.Proofs.YtancidbbkoeokaaGreatDoor

/- Contracts of spec.l04Num and spec.l04Kind. -/
namespace Go.Proofs.YtancidbbkoeokaaGreatDoor
open Go.ChangeShapes Go.WideShapes Go.ChangeAt Go.RowKit

theorem fnum_last {f : ByteArray} {m : Nat} (hm : f.size = m + 1) (q : m < f.size) : (decide (f.data.toList.drop (f.size - 1) = [0])) = decide (f[m] = 0) := by
  have hl : m < f.data.toList.length := by simpa using q
  rw [hm, Nat.add_sub_cancel, List.drop_eq_getElem_cons hl, List.drop_eq_nil_of_le (by simp; omega)]
  simp
  rfl
set_option maxHeartbeats 1600000 in
theorem num_spec (f : ByteArray) (w : World) (h1 : 1 ≤ f.size) (h2 : f.size ≤ 4194304) :
    Calls Tryz.prog 64 #[.string f] w fun e w' => e = .returned (.tuple #[.int .i64 (fnumv f), .bool (fnumOk f)]) ∧ Below w.heap.size w w' := by
  obtain ⟨m, hm⟩ : ∃ m, f.size = m + 1 := ⟨f.size - 1, by omega⟩
  have q : m < f.size := by omega
  have HO : Hid (fnumOk f = ((getOctv (f.extract 0 m).data.toList).2 && decide (f[m] = 0))) := Lib.hid (by rw [fnumOk, fnum_last hm q, ext0, hm, Nat.add_sub_cancel])
  have HN : Hid (fnumv f = (getOctv (f.extract 0 m).data.toList).1) := Lib.hid (by rw [fnumv, ext0, hm, Nat.add_sub_cancel])
  have H := Lib.hid (fun w => getOct_spec (f.extract 0 m) w (by rw [ByteArray.size_extract]; omega))
  generalize fnumOk f = ov at HO
  generalize fnumv f = nv at HN
  generalize getOctv (f.extract 0 m).data.toList = pr at *
  obtain ⟨n, o⟩ := pr
  simp only at HO HN H
  have c0 : (f.size : Int) - 1 = (m : Int) := by omega
  have c1 : (0 : Int) ≤ (m : Int) := by omega
  have c2 : (m : Int) ≤ (f.size : Int) := by omega
  have c3 : (m : Int) < (f.size : Int) := by omega
  have HM := Lib.hid hm
  clear hm
  cases o with
  | false =>
    go_enter Tryz.func64, Tryz.ntmps64
    go_wp2_with fail
    refine (H.out _).mono ?_
    rintro e w1 ⟨rfl, rfl⟩
    go_wp2_with fail
    go_region
    go_wp2
    go_ret2
    exact ⟨by rw [HO.out, HN.out]; rfl, ⟨rfl, rfl, rfl, Nat.le_refl _, fun _ _ => rfl⟩⟩
  | true =>
    by_cases hc : f[m] = 0
    · have hc' : (((f[m].toNat : Nat) : Int) == 0) = true := by rw [hc]; rfl
      have HO2 : Hid (ov = true) := Lib.hid (by rw [HO.out, hc]; rfl)
      clear hc HO
      go_enter Tryz.func64, Tryz.ntmps64
      go_wp2_with fail
      refine (H.out _).mono ?_
      rintro e w1 ⟨rfl, rfl⟩
      go_wp2_with fail
      go_region
      go_wp2
      go_ret2
      exact ⟨by rw [HO2.out, HN.out]; rfl, ⟨rfl, rfl, rfl, Nat.le_refl _, fun _ _ => rfl⟩⟩
    · have hc' : (((f[m].toNat : Nat) : Int) == 0) = false := byte_eq0 hc
      have HO2 : Hid (ov = false) := Lib.hid (by rw [HO.out]; simp [hc])
      clear hc HO
      go_enter Tryz.func64, Tryz.ntmps64
      go_wp2_with fail
      refine (H.out _).mono ?_
      rintro e w1 ⟨rfl, rfl⟩
      go_wp2_with fail
      go_region
      go_wp2
      go_ret2
      exact ⟨by rw [HO2.out, HN.out]; rfl, ⟨rfl, rfl, rfl, Nat.le_refl _, fun _ _ => rfl⟩⟩
set_option maxRecDepth 8000 in
theorem kindS_any (p l : ByteArray) (m u g t : Int) (us gr b fl : ByteArray) (w : World) :
    Calls Tryz.prog 39 #[.agg #[.int .i64 0, .string p, .string l, .int .i64 m, .int .i64 u, .int .i64 g, .int .i64 t, .string us, .string gr, .string b], .string fl] w fun e w' => e = .returned (.agg #[.int .i64 (if 0 ≤ kindv fl then kindv fl else 0), .string p, .string l, .int .i64 m, .int .i64 u, .int .i64 g, .int .i64 t, .string us, .string gr, .string b]) ∧ Below w.heap.size w w' := by
  have H := Lib.hid (fun w => kind_spec fl w)
  generalize kindv fl = kv at *
  have OB := two_obj w (.cells #[.int .i64 0, .string p, .string l, .int .i64 m, .int .i64 u, .int .i64 g, .int .i64 t, .string us, .string gr, .string b] 32) (.cells zEnt 32)
  have OB' := Lib.hid OB
  have BN := Lib.hid (And.intro OB.2.2.1 (show w.heap.size + 2 ≤ ((w.alloc (.cells #[.int .i64 0, .string p, .string l, .int .i64 m, .int .i64 u, .int .i64 g, .int .i64 t, .string us, .string gr, .string b] 32)).alloc (.cells zEnt 32)).heap.size by simp))
  clear OB
  by_cases hk : 0 ≤ kv
  · rw [if_pos hk]
    go_enter Tryz.func39, Tryz.ntmps39
    go_wp2_with fail
    refine (H.out _).mono ?_
    rintro e w1 ⟨rfl, hb⟩
    have E1 := (hb.block _ (obj_lt OB'.out.1)).trans OB'.out.1
    have R1 := (hb.block _ (obj_lt OB'.out.2.1)).trans OB'.out.2.1
    have B1 := Lib.hid (BN.out.1.trans (hb.mono BN.out.1.size))
    have cE : w1.cell? ⟨w.heap.size, 0, none⟩ = some (.int .i64 0) := by rw [cell_of_row _ _ _ _ _ _ E1]; rfl
    have fE : w1.frozen? ⟨w.heap.size, 0, none⟩ = false := obj_frozen E1
    have E2 : (w1.setCell ⟨w.heap.size, 0, none⟩ (.int .i64 kv)).heap[w.heap.size]? = some (.cells #[.int .i64 kv, .string p, .string l, .int .i64 m, .int .i64 u, .int .i64 g, .int .i64 t, .string us, .string gr, .string b] 32 (0, 0)) := Go.heap_setCell_same _ _ _ _ _ _ E1
    have R2 : (w1.setCell ⟨w.heap.size, 0, none⟩ (.int .i64 kv)).heap[w.heap.size + 1]? = some (.cells zEnt 32 (0, 0)) := by rw [Below.heap_setCell _ _ _ _ (by simp)]; exact R1
    have HLd := Lib.hid (run_loadVar_row (P := Tryz.prog) _ _ 32 32 _ (0, 0) _ E2 Tryz.underlying32 rfl (by rw [Tryz.sizeEnt]; rfl))
    have HSt := Lib.hid (run_storeVar_row (P := Tryz.prog) _ (w.heap.size + 1) 32 32 zEnt #[.int .i64 kv, .string p, .string l, .int .i64 m, .int .i64 u, .int .i64 g, .int .i64 t, .string us, .string gr, .string b] R2 (by rw [Tryz.sizeEnt]; rfl) rfl (by simp [Value.oneCell']))
    have HR2 := Lib.hid R2
    have B2 := Lib.hid ((B1.out.setCell (p := ⟨w.heap.size, 0, none⟩) (Nat.le_refl _) (.int .i64 kv)))
    clear hb E1 R1 E2 R2 BN OB'
    go_wp2_with (first | ((with_reducible refine wpList_load_eq rfl 32 _ rfl ⟨w.heap.size, 0, none⟩ ?_ HLd.out ?_); rfl) | ((with_reducible refine wpList_store_eq rfl 32 _ _ rfl ⟨w.heap.size + 1, 0, none⟩ ?_ ?_ HSt.out ?_); rfl; rfl))
    exact bodyPost_ret (results_cell_row rfl _ _ (w.heap.size + 1) _ #[.int .i64 kv, .string p, .string l, .int .i64 m, .int .i64 u, .int .i64 g, .int .i64 t, .string us, .string gr, .string b] (0, 0) _ rfl (setRow_heap _ _ _ _ _ _ HR2.out) Tryz.underlying32 rfl (by rw [Tryz.sizeEnt]; rfl)) rfl ⟨rfl, B2.out.trans (below_set (Nat.le_succ _) _)⟩
  · rw [if_neg hk]
    go_enter Tryz.func39, Tryz.ntmps39
    go_wp2_with fail
    refine (H.out _).mono ?_
    rintro e w1 ⟨rfl, hb⟩
    have E1 := (hb.block _ (obj_lt OB'.out.1)).trans OB'.out.1
    have R1 := (hb.block _ (obj_lt OB'.out.2.1)).trans OB'.out.2.1
    have B1 := Lib.hid (BN.out.1.trans (hb.mono BN.out.1.size))
    have HLd := Lib.hid (run_loadVar_row (P := Tryz.prog) _ _ 32 32 _ (0, 0) _ E1 Tryz.underlying32 rfl (by rw [Tryz.sizeEnt]; rfl))
    have HSt := Lib.hid (run_storeVar_row (P := Tryz.prog) _ (w.heap.size + 1) 32 32 zEnt #[.int .i64 0, .string p, .string l, .int .i64 m, .int .i64 u, .int .i64 g, .int .i64 t, .string us, .string gr, .string b] R1 (by rw [Tryz.sizeEnt]; rfl) rfl (by simp [Value.oneCell']))
    have HR2 := Lib.hid R1
    clear hb E1 R1 BN OB'
    go_wp2_with (first | ((with_reducible refine wpList_load_eq rfl 32 _ rfl ⟨w.heap.size, 0, none⟩ ?_ HLd.out ?_); rfl) | ((with_reducible refine wpList_store_eq rfl 32 _ _ rfl ⟨w.heap.size + 1, 0, none⟩ ?_ ?_ HSt.out ?_); rfl; rfl))
    exact bodyPost_ret (results_cell_row rfl _ _ (w.heap.size + 1) _ #[.int .i64 0, .string p, .string l, .int .i64 m, .int .i64 u, .int .i64 g, .int .i64 t, .string us, .string gr, .string b] (0, 0) _ rfl (setRow_heap _ _ _ _ _ _ HR2.out) Tryz.underlying32 rfl (by rw [Tryz.sizeEnt]; rfl)) rfl ⟨rfl, B1.out.trans (below_set (Nat.le_succ _) _)⟩
end Go.Proofs.YtancidbbkoeokaaGreatDoor

/- A statement that draws its order but for its last operations, which come behind all others in their own order. Nothing of the program is said here. -/
namespace Go.Proofs.YtancidbbkoeokaaGreatDoor
open Go

section
variable {P : Program} {Q : Exit → Act → World → Prop}

/-- Each operation ahead of i has one behind it, up to i, that waits for it. -/
def covB (md : Region.Mode) (ops : Array Oper) (i : Nat) : Bool :=
  (List.range i).all fun k => (List.range (i + 1)).any fun k' => decide (k < k') && (match ops[k']? with | some o => o.after.any (fun e => Region.binds md e && e.on == k) | none => false)
def tailB (md : Region.Mode) (l t : List Oper) : Bool :=
  t.all (fun o => o.guard.isNone) && (List.range t.length).all (fun j => covB md (l ++ t).toArray (l.length + j)) && (List.range t.length).all (fun j => match (l ++ t).toArray[l.length + j]? with | some o => o.after.all (fun e => !Region.binds md e || decide (e.on < l.length + j)) | none => true)
theorem cov_all {md : Region.Mode} {ops : Array Oper} {i : Nat} {o : Oper} {listed : Array Bool} (hc : covB md ops i = true) (ho : ops[i]? = some o)
    (clo : ∀ j p, ops[j]? = some p → listed.getD j false = true → ∀ e ∈ p.after, Region.binds md e = true → listed.getD e.on false = true)
    (hall : ∀ e ∈ o.after, Region.binds md e = true → listed.getD e.on false = true) : ∀ k, k < i → listed.getD k false = true := by
  have key : ∀ n k, k < i → i - k ≤ n → listed.getD k false = true := by
    intro n
    induction n with
    | zero => intro k hk hn; omega
    | succ n ih =>
      intro k hk hn
      have h1 := List.all_eq_true.1 hc k (List.mem_range.2 hk)
      obtain ⟨k', hk', h2⟩ := List.any_eq_true.1 h1
      rw [List.mem_range] at hk'
      simp only [Bool.and_eq_true, decide_eq_true_eq] at h2
      cases hp : ops[k']? with
      | none => rw [hp] at h2; simp at h2
      | some p =>
        rw [hp] at h2
        simp only [Array.any_eq_true', Bool.and_eq_true, beq_iff_eq] at h2
        obtain ⟨hlt, e, he, hb, rfl⟩ := h2
        by_cases q : k' = i
        · subst q
          rw [ho] at hp
          obtain rfl := Option.some.inj hp
          exact hall e he hb
        · exact clo k' p hp (ih k' (by omega) (by omega)) e he hb
  exact fun k hk => key (i - k) k hk (Nat.le_refl _)
theorem wp_region_tail {id : Nat} {a0 : Act} {w0 : World} (l t : List Oper) (hm : P.follows .mixedOrders = true) (C : World → Prop) (St : World → World → Prop) (V : Nat → Value → World → Prop) (hB : regB .any l.toArray a0.tmps.size = true) (hTl : tailB .any l t = true)
    (hC : C { w0 with drawn := w0.drawn + 1 }) (hV : ∀ d v w w', C w → St w w' → V d v w → V d v w') (hne : l ≠ []) (hops : ∀ o ∈ l, OpOk P l.toArray C St V a0 o)
    (hend : ∀ (f : Nat → Value) (w : World), C w → (∀ o ∈ l, ∀ d, o.dst = some d → V d (f d) w) → wpList P (l ++ t).toArray Q t (putAll f l a0) w) : (Code.region id (l ++ t).toArray true).wp P Q a0 w0 := by
  simp only [tailB, Bool.and_eq_true] at hTl
  obtain ⟨⟨hg, hcov⟩, hlt⟩ := hTl
  have hsz : (l ++ t).toArray.size = l.length + t.length := by simp
  have hleft : ∀ i o, i < l.length → ((l ++ t).toArray[i]? = some o ↔ l.toArray[i]? = some o) := by
    intro i o hi
    simp [List.getElem?_append_left hi]
  refine wp_region_any hm (wpAny_inv (fun listed a w => listed.size = (l ++ t).toArray.size ∧ (∀ j p, (l ++ t).toArray[j]? = some p → listed.getD j false = true → ∀ e ∈ p.after, Region.binds .any e = true → listed.getD e.on false = true) ∧
    ((∃ k, k ≤ t.length ∧ (∀ i, i < l.length + k → listed.getD i false = true) ∧ (∀ i, l.length + k ≤ i → listed.getD i false = false) ∧ wpList P (l ++ t).toArray Q (t.drop k) a w) ∨
     ((∃ i, i < l.length ∧ listed.getD i false = false) ∧ (∀ i, l.length ≤ i → listed.getD i false = false) ∧ C w ∧ a.defers = a0.defers ∧ a.tmps.size = a0.tmps.size ∧
      (∀ s, (∀ i o, l.toArray[i]? = some o → listed.getD i false = true → o.dst ≠ some s) → a.tmps.getD s undef = a0.tmps.getD s undef) ∧
      (∀ i o d, l.toArray[i]? = some o → listed.getD i false = true → o.dst = some d → V d (a.tmps.getD d undef) w)))) ?_ ?_ _ _ _ _ ?_ ?_)
  · rintro listed a w ⟨hs, clo, hI⟩ i hi
    obtain ⟨hun, o, ho, hall⟩ := mem_ready.1 hi
    have hil : i < listed.size := by rw [hs]; exact (Array.getElem?_eq_some_iff.1 ho).1
    have hun' : listed.getD i false = false := by simp only [Array.getD, hil, dif_pos] at hun ⊢; exact hun
    have hup : ∀ k, listed.getD k false = true → (listed.setIfInBounds i true).getD k false = true := fun k hk => by
      by_cases q : k = i
      · subst q; exact set_getD_self hil
      · rw [set_getD_ne q]; exact hk
    have clo' : ∀ j p, (l ++ t).toArray[j]? = some p → (listed.setIfInBounds i true).getD j false = true → ∀ e ∈ p.after, Region.binds .any e = true → (listed.setIfInBounds i true).getD e.on false = true := by
      intro j p hp hl e he hb
      by_cases hj : j = i
      · subst hj
        rw [ho] at hp
        obtain rfl := Option.some.inj hp
        exact hup _ (hall e he hb)
      · rw [set_getD_ne hj] at hl
        exact hup _ (clo j p hp hl e he hb)
    rcases hI with ⟨k, hk, h1, h2, hw⟩ | ⟨⟨i0, hi0, hu0⟩, hnt, hCw, hd, hts, hold, hnew⟩
    · have hik : l.length + k ≤ i := by
        by_cases q : l.length + k ≤ i
        · exact q
        · rw [h1 i (by omega)] at hun'; cases hun'
      have hit : i < l.length + t.length := by rw [← hsz]; exact (Array.getElem?_eq_some_iff.1 ho).1
      have hcv : covB .any (l ++ t).toArray i = true := by
        have := List.all_eq_true.1 hcov (i - l.length) (List.mem_range.2 (by omega))
        rwa [show l.length + (i - l.length) = i from by omega] at this
      have hbef := cov_all hcv ho clo hall
      obtain rfl : i = l.length + k := by
        by_cases q : i = l.length + k
        · exact q
        · have := hbef (l.length + k) (by omega)
          rw [h2 _ (Nat.le_refl _)] at this
          cases this
      have hkt : k < t.length := by omega
      have hot : t[k]? = some o := by
        have : (l ++ t)[l.length + k]? = some o := by simpa using ho
        rw [List.getElem?_append_right (by omega)] at this
        simpa using this
      have hgd : o.guard = none := by
        have := List.all_eq_true.1 hg o (List.mem_of_getElem? hot)
        simpa using this
      have hwant : Region.wanted o (yielded (l ++ t).toArray a.tmps) = true := by simp [Region.wanted, hgd]
      have hdrop : t.drop k = o :: t.drop (k + 1) := by
        rw [List.drop_eq_getElem_cons hkt]
        congr 1
        have := List.getElem?_eq_getElem hkt
        rw [hot] at this
        exact (Option.some.inj this).symm
      rw [hdrop, wpList, if_pos hwant] at hw
      unfold wpOp
      simp only [ho, hwant, if_true]
      refine hw.imp (Oper.wp_mono (fun a' w' h' => ?_)) (fun x => x)
      refine ⟨by simpa using hs, clo', .inl ⟨k + 1, by omega, fun j hj => ?_, fun j hj => ?_, h'⟩⟩
      · by_cases q : j = l.length + k
        · subst q; exact set_getD_self hil
        · rw [set_getD_ne q]; exact h1 j (by omega)
      · rw [set_getD_ne (by omega)]; exact h2 j (by omega)
    · have him : i < l.length := by
        by_cases q : i < l.length
        · exact q
        · have hit : i < l.length + t.length := by rw [← hsz]; exact (Array.getElem?_eq_some_iff.1 ho).1
          have hcv : covB .any (l ++ t).toArray i = true := by
            have := List.all_eq_true.1 hcov (i - l.length) (List.mem_range.2 (by omega))
            rwa [show l.length + (i - l.length) = i from by omega] at this
          have := cov_all hcv ho clo hall i0 (by omega)
          rw [hu0] at this
          cases this
      have hol := (hleft i o him).1 ho
      have hat := regB_at hB hol
      have hmem : o ∈ l := by
        have := Array.mem_of_getElem? hol
        simpa using this
      have hwant : Region.wanted o (yielded (l ++ t).toArray a.tmps) = true := by simp [Region.wanted, hat.1]
      have hrun := hops o hmem Q a w hCw (fun s hs' hin => ?_) (fun s hs' hin => ?_)
      · unfold wpOp
        simp only [ho, hwant, if_true]
        refine .inl (Oper.wp_mono (fun a' w' h' => ?_) hrun)
        obtain ⟨v, rfl, hC', hSt, hv⟩ := h'
        have hd' : (a.put o.dst v).defers = a0.defers := by cases hdst : o.dst <;> simp [Act.put, hd]
        have hts' : (a.put o.dst v).tmps.size = a0.tmps.size := by cases hdst : o.dst <;> simp [Act.put, hts]
        have hold' : ∀ s, (∀ j p, l.toArray[j]? = some p → (listed.setIfInBounds i true).getD j false = true → p.dst ≠ some s) → (a.put o.dst v).tmps.getD s undef = a0.tmps.getD s undef := by
          intro s hs'
          have hne' : o.dst ≠ some s := hs' i o hol (set_getD_self hil)
          have h1 := hold s (fun j p hp hl => hs' j p hp (hup j hl))
          rw [← h1]
          cases hdst : o.dst with
          | none => rfl
          | some d =>
            have hdt : d ≠ s := fun e => hne' (by rw [hdst, e])
            exact getD_put_ne hdt
        have hnew' : ∀ j p d, l.toArray[j]? = some p → (listed.setIfInBounds i true).getD j false = true → p.dst = some d → V d ((a.put o.dst v).tmps.getD d undef) w' := by
          intro j p d hp hl hd2
          by_cases hj : j = i
          · subst hj
            rw [hol] at hp
            obtain rfl := Option.some.inj hp
            have hdl := hat.2.1 d hd2
            have : (a.put o.dst v).tmps.getD d undef = v := by
              rw [hd2]; simp [Act.put, Array.getD, hts, hdl]
            rw [this]
            exact hv d hd2
          · have hl' : listed.getD j false = true := by rw [set_getD_ne hj] at hl; exact hl
            have hne' : o.dst ≠ some d := ((hat.2.2.2 j p d hp hd2).1).resolve_left (Ne.symm hj)
            have hold2 := hnew j p d hp hl' hd2
            have : (a.put o.dst v).tmps.getD d undef = a.tmps.getD d undef := by
              cases hdst : o.dst with
              | none => rfl
              | some d' =>
                have hdt : d' ≠ d := fun e => hne' (by rw [hdst, e])
                exact getD_put_ne hdt
            rw [this]
            exact hV d _ _ _ hCw hSt hold2
        have hnt' : ∀ j, l.length ≤ j → (listed.setIfInBounds i true).getD j false = false := fun j hj => by rw [set_getD_ne (by omega)]; exact hnt j hj
        refine ⟨by simpa using hs, clo', ?_⟩
        by_cases hfull : ∀ j, j < l.length → (listed.setIfInBounds i true).getD j false = true
        · refine .inl ⟨0, Nat.zero_le _, fun j hj => hfull j (by omega), fun j hj => hnt' j (by omega), ?_⟩
          have hput := putAll_facts (fun d => (a.put o.dst v).tmps.getD d undef) l a0
          have ha : a.put o.dst v = putAll (fun d => (a.put o.dst v).tmps.getD d undef) l a0 := by
            refine act_ext (hd'.trans hput.1.symm) (hts'.trans hput.2.1.symm) (fun s hs' => ?_)
            rw [hput.2.1] at hs'
            rw [hput.2.2 s hs']
            by_cases h : l.any (fun o => o.dst == some s) = true
            · rw [if_pos h]
            · rw [if_neg h]
              refine hold' s (fun j p hp _ hd2 => h ?_)
              rw [List.any_eq_true]
              exact ⟨p, by have := Array.mem_of_getElem? hp; simpa using this, by rw [hd2]; simp⟩
          rw [List.drop_zero, ha]
          refine hend _ w' hC' (fun p hp d hd2 => ?_)
          obtain ⟨j, hj⟩ := List.mem_iff_getElem?.1 hp
          have hj' : l.toArray[j]? = some p := by simpa using hj
          exact hnew' j p d hj' (hfull j (List.getElem?_eq_some_iff.1 hj).1) hd2
        · refine .inr ⟨?_, hnt', hC', hd', hts', hold', hnew'⟩
          obtain ⟨j, hj⟩ := Classical.not_forall.1 hfull
          obtain ⟨hj1, hj2⟩ := Classical.not_imp.1 hj
          exact ⟨j, hj1, by simpa using hj2⟩
      · obtain ⟨j, p, hp, hd2⟩ := oldB_f hin
        obtain ⟨e, he, hb, rfl⟩ := (hat.2.2.2 j p s hp hd2).2 (by simpa using hs') hin
        exact hnew e.on p s hp (hall e he hb) hd2
      · refine hold s (fun j p hp hl hd2 => ?_)
        obtain ⟨d, hod, e, he, hb, hq⟩ := oldB_t hin hp hd2
        have hjl : j < l.length := by have := (Array.getElem?_eq_some_iff.1 hp).1; simpa using this
        have hel := clo j p ((hleft j p hjl).2 hp) hl e he hb
        cases hqq : l.toArray[e.on]? with
        | none => rw [hqq] at hq; cases hq
        | some q =>
          rw [hqq] at hq
          rcases (hat.2.2.2 e.on q d hqq hq).1 with rfl | h
          · rw [hun'] at hel; cases hel
          · exact h hod
  · rintro listed a w ⟨hs, clo, hI⟩ hr
    have hal : ∀ i, i < (l ++ t).toArray.size → listed.getD i false = true := by
      intro i
      induction i using Nat.strongRecOn with
      | ind i ih =>
        intro hi
        cases h : listed.getD i false with
        | true => rfl
        | false =>
          have ho : (l ++ t).toArray[i]? = some (l ++ t).toArray[i] := Array.getElem?_eq_getElem hi
          have hmem : i ∈ Region.ready .any (l ++ t).toArray listed := by
            have hil : i < listed.size := by rw [hs]; exact hi
            refine mem_ready.2 ⟨by simp only [Array.getD, hil, dif_pos] at h ⊢; exact h, _, ho, fun e he hb => ?_⟩
            have hlt2 : e.on < i := by
              by_cases q : i < l.length
              · exact (regB_at hB ((hleft i _ q).1 ho)).2.2.1 e he hb
              · have h3 := List.all_eq_true.1 hlt (i - l.length) (List.mem_range.2 (by omega))
                rw [show l.length + (i - l.length) = i from by omega, ho] at h3
                have := Array.all_eq_true'.1 h3 e he
                simpa [hb] using this
            exact ih e.on hlt2 (by omega)
          rw [hr] at hmem
          cases hmem
    rcases hI with ⟨k, hk, h1, h2, hw⟩ | ⟨⟨i0, hi0, hu0⟩, _⟩
    · obtain rfl : k = t.length := by
        by_cases q : k = t.length
        · exact q
        · have := hal (l.length + k) (by omega)
          rw [h2 _ (Nat.le_refl _)] at this
          cases this
      rw [List.drop_length] at hw
      exact hw
    · have := hal i0 (by omega)
      rw [hu0] at this
      cases this
  · unfold openOps
    exact Nat.le_trans (List.length_filter_le _ _) (by simp)
  · have hf : ∀ i, (Array.replicate (l ++ t).toArray.size false).getD i false = false := fun i => by
      simp [Array.getD]
    have hpos : 0 < l.length := by
      cases l with
      | nil => exact absurd rfl hne
      | cons _ _ => simp
    refine ⟨by simp, ?_, .inr ⟨⟨0, hpos, hf 0⟩, fun i _ => hf i, hC, rfl, rfl, fun s _ => rfl, ?_⟩⟩
    · intro j p _ hl
      rw [hf] at hl; cases hl
    · intro i o d _ hl
      rw [hf] at hl; cases hl
theorem wp_region_cut {id : Nat} {a0 : Act} {w0 : World} {full : List Oper} (K : Nat) (hm : P.follows .mixedOrders = true) (C : World → Prop) (St : World → World → Prop) (V : Nat → Value → World → Prop) (hB : regB .any (full.take K).toArray a0.tmps.size = true) (hTl : tailB .any (full.take K) (full.drop K) = true)
    (hC : C { w0 with drawn := w0.drawn + 1 }) (hV : ∀ d v w w', C w → St w w' → V d v w → V d v w') (hne : full.take K ≠ []) (hops : ∀ o ∈ full.take K, OpOk P (full.take K).toArray C St V a0 o)
    (hend : ∀ (f : Nat → Value) (w : World), C w → (∀ o ∈ full.take K, ∀ d, o.dst = some d → V d (f d) w) → wpList P full.toArray Q (full.drop K) (putAll f (full.take K) a0) w) : (Code.region id full.toArray true).wp P Q a0 w0 := by
  have h := wp_region_tail (P := P) (Q := Q) (id := id) (a0 := a0) (w0 := w0) (full.take K) (full.drop K) hm C St V hB hTl hC hV hne hops (by rw [List.take_append_drop]; exact hend)
  rw [List.take_append_drop] at h
  exact h
end
end Go.Proofs.YtancidbbkoeokaaGreatDoor

/- Contract of spec.l04Read. -/
namespace Go.Proofs.YtancidbbkoeokaaGreatDoor
open Go.ChangeShapes Go.WideShapes Go.ChangeAt Go.RowKit

def rdc (s : ByteArray) : Int := if s.size < 512 then 1 else if sumOkv s = false then 2 else if headOk (lOf s) = false then 3 else 0
def readS (s : ByteArray) : Value := if rdc s = 0 then .tuple #[.agg (entL (lOf s)).cells.toArray, .string (fW (lOf s) 7), .int .i64 (fnumv (fW (lOf s) 4)), .int .i64 0] else .tuple #[.agg zEnt, .string ⟨#[]⟩, .int .i64 0, .int .i64 (rdc s)]
theorem readS_bad {s : ByteArray} {c : Int} (h : rdc s = c) (hc : ¬ c = 0) : readS s = .tuple #[.agg zEnt, .string ⟨#[]⟩, .int .i64 0, .int .i64 c] := by rw [readS, h, if_neg hc]
theorem Tryz.infoInt : (Tryz.prog.info? 3).map (fun i => (i.zero, i.size, i.bytes)) = some (some (.int .i64 0), 1, 8) := by kernel_rfl
theorem cell_setRow_other {w : World} {g k o : Nat} {cs : Array Value} (h : k ≠ g) : (w.setRow g cs).cell? ⟨k, o, none⟩ = w.cell? ⟨k, o, none⟩ := by
  unfold World.cell?
  rw [setRow_other _ _ _ _ h]
def vBox (B : Nat) (V : Nat → Value → Prop) (d : Nat) (v : Value) (w : World) : Prop := if d = 15 then ∃ G, v = .pointer (some ⟨G, 0, none⟩) ∧ B ≤ G ∧ w.heap[G]? = some (.cells zEnt 32 (0, 0)) else V d v
theorem vBox_keep {C : World → Prop} (B : Nat) (V : Nat → Value → Prop) : ∀ d v x y, C x → Below x.heap.size x y → vBox B V d v x → vBox B V d v y := by
  intro d v x y _ hb h
  unfold vBox at h ⊢
  split at h
  · rename_i hd
    rw [if_pos hd]
    obtain ⟨G, h1, h2, h3⟩ := h
    exact ⟨G, h1, h2, (hb.block _ (obj_lt h3)).trans h3⟩
  · rename_i hd
    rw [if_neg hd]
    exact h
/-- The first i numbers of a header. -/
def nl (l : List UInt8) (i : Nat) : List Value := (List.range i).map fun j => .int .i64 (fnumv (fW l (j + 1)))
theorem nl_len (l : List UInt8) (i : Nat) : (nl l i).length = i := by simp [nl]
theorem nl_succ (l : List UInt8) (i : Nat) : nl l (i + 1) = nl l i ++ [.int .i64 (fnumv (fW l (i + 1)))] := by simp [nl, List.range_succ]
set_option maxHeartbeats 6400000 in
set_option maxRecDepth 8000 in
theorem read_spec (s : ByteArray) (w : World) (hs : s.size ≤ 1048576) :
    Calls Tryz.prog 37 #[.string s] w fun e w' => e = .returned (readS s) ∧ Below w.heap.size w w' := by
  have B0 := Lib.hid ((Below.refl w.heap.size w).alloc (Nat.le_refl _) (.cells zEnt 32))
  have R0 : Hid ((w.alloc (.cells zEnt 32)).heap[w.heap.size]? = some (.cells zEnt 32 (0, 0))) := Lib.hid (heap_alloc_last _ _)
  have HSt0 := Lib.hid (run_storeVar_new (P := Tryz.prog) w 32 zEnt zEnt (by rw [Tryz.sizeEnt]; rfl) rfl (by simp [zEnt, Value.oneCell']))
  by_cases h5 : (s.size : Int) < 512
  · have HE := Lib.hid (readS_bad (s := s) (c := 1) (by rw [rdc, if_pos (by omega)]) (by omega))
    go_enter Tryz.func37, Tryz.ntmps37
    go_wp2_with ((with_reducible refine wpList_store_eq rfl 32 _ _ rfl ⟨w.heap.size, 0, none⟩ ?_ ?_ HSt0.out ?_); rfl; rfl)
    refine bodyPost_ret (results_cell4 rfl _ _ w.heap.size _ zEnt (0, 0) _ rfl R0.out Tryz.underlying32 rfl (by rw [Tryz.sizeEnt]; rfl)) rfl ?_
    rw [HE.out]
    exact ⟨rfl, B0.out⟩
  · have h512 : 512 ≤ s.size := by omega
    have H1 := Lib.hid (fun w => getOct_spec (s.extract 148 154) w (by rw [ByteArray.size_extract]; omega))
    have H2 := Lib.hid (fun w => headSum_spec s w hs)
    have HQ := Lib.hid (sum_iff h512)
    have HR2 : Hid (sumOkv s = false → rdc s = 2) := Lib.hid (fun h => by rw [rdc, if_neg (by omega), if_pos h])
    have HR3 : Hid (sumOkv s = true → headOk (lOf s) = false → rdc s = 3) := Lib.hid (fun h h2 => by rw [rdc, if_neg (by omega), if_neg (by rw [h]; simp), if_pos h2])
    have HR0 : Hid (sumOkv s = true → headOk (lOf s) = true → rdc s = 0) := Lib.hid (fun h h2 => by rw [rdc, if_neg (by omega), if_neg (by rw [h]; simp), if_neg (by rw [h2]; simp)])
    generalize getOctv (s.extract 148 154).data.toList = pr at *
    obtain ⟨n6, o6⟩ := pr
    simp only at H1 HQ
    have c1 : (154 : Int) ≤ (s.size : Int) := by omega
    have c2 : (156 : Int) ≤ (s.size : Int) := by omega
    have bad : ∀ w1, Below (w.alloc (.cells zEnt 32)).heap.size (w.alloc (.cells zEnt 32)) w1 → w1.heap[w.heap.size]? = some (.cells zEnt 32 (0, 0)) ∧ Below w.heap.size w w1 := fun w1 hb => ⟨(hb.block _ (obj_lt R0.out)).trans R0.out, B0.out.trans (hb.mono B0.out.size)⟩
    have BAD := Lib.hid bad
    clear bad
    cases o6 with
    | false =>
      have HE := Lib.hid (readS_bad (s := s) (c := 2) (HR2.out (by cases h : sumOkv s with | false => rfl | true => have := (HQ.out.1 h).1; cases this)) (by omega))
      go_enter Tryz.func37, Tryz.ntmps37
      go_wp2_with fail
      refine (H1.out _).mono ?_
      rintro e w1 ⟨rfl, rfl⟩
      go_wp2_with ((with_reducible refine wpList_store_eq rfl 32 _ _ rfl ⟨w.heap.size, 0, none⟩ ?_ ?_ HSt0.out ?_); rfl; rfl)
      refine bodyPost_ret (results_cell4 rfl _ _ w.heap.size _ zEnt (0, 0) _ rfl R0.out Tryz.underlying32 rfl (by rw [Tryz.sizeEnt]; rfl)) rfl ?_
      rw [HE.out]
      exact ⟨rfl, B0.out⟩
    | true =>
      by_cases h2 : s.extract 154 156 = ⟨#[0, 32]⟩
      · have q2 := lit_eq (s := s.extract 154 156) (l := [0, 32]) h2
        by_cases h3 : n6 = headSumv s
        · have hok : sumOkv s = true := HQ.out.2 ⟨rfl, h2, h3⟩
          have HS3 := Lib.hid (HR3.out hok)
          have HS0 := Lib.hid (HR0.out hok)
          subst h3
          have q3 : (headSumv s != headSumv s) = false := by simp
          clear HQ HR2 HR3 HR0 hok h2
          generalize headSumv s = hsv at *
          go_enter Tryz.func37, Tryz.ntmps37
          go_wp2_with fail
          refine (H1.out _).mono ?_
          rintro e w1 ⟨rfl, rfl⟩
          go_wp2_with fail
          refine (H2.out _).mono ?_
          rintro e w1 ⟨rfl, hb⟩
          obtain ⟨R1, B1⟩ := BAD.out w1 hb
          clear hb
          -- LOOP
          have RO1 := Lib.hid R1
          have BW1 := Lib.hid B1
          have zR := obj_lt R1
          clear R1 B1 H1 H2 BAD HSt0 R0 B0 q2 q3
          obtain ⟨i0, hi0, hz0, hz1, hz2⟩ := info_parts Tryz.infoInt
          have c148 : (148 : Int) ≤ (s.size : Int) := by omega
          go_wp2_with fail
          go_loopw [8, 10] (fun v u wr => ∃ i : Nat, u = .int .i64 i ∧ i ≤ 5 ∧ ok5 (lOf s) i = true ∧ wr.ownsRow w1.heap.size 3 1 v i (nl (lOf s) i) ∧ (∃ gb cp, v = .slice (some ⟨gb, 0, none⟩) i cp ∧ gb ≠ w1.heap.size + 1) ∧ wr.heap[w1.heap.size + 1]? = some (.cells #[.int .i64 100, .int .i64 108, .int .i64 116, .int .i64 124, .int .i64 136, .int .i64 148] 3 (0, 0)) ∧ Below w1.heap.size w1 wr) (fun _ u _ => 5 - (intOf u).toNat)
          case atStart =>
            have h0 := World.ownsRow_lit (base := w1.heap.size) (e := 3) (size := 1) w1 #[] 0 (Nat.le_refl _) (by simp) rfl
            exact ⟨0, rfl, by omega, rfl, World.ownsRow.alloc h0 _, ⟨_, _, rfl, by omega⟩, (two_obj w1 _ _).2.1, (two_obj w1 _ _).2.2.1⟩
          case round =>
            obtain ⟨i, rfl, hi, hok, ho, ⟨gb, cp, rfl, hgb⟩, hA, hD⟩ := hrel
            have O := Lib.hid ho
            have AO := Lib.hid hA
            have D := Lib.hid hD
            have OK := Lib.hid hok
            clear ho hA hD hok
            by_cases h5' : i = 5
            · subst h5'
              have n0 : wr.cell? ⟨gb, 0, none⟩ = some (.int .i64 (fnumv (fW (lOf s) 1))) := World.ownsRow.cells O.out rfl 0 _ rfl
              have n1 : wr.cell? ⟨gb, 1, none⟩ = some (.int .i64 (fnumv (fW (lOf s) 2))) := World.ownsRow.cells O.out rfl 1 _ rfl
              have n2 : wr.cell? ⟨gb, 2, none⟩ = some (.int .i64 (fnumv (fW (lOf s) 3))) := World.ownsRow.cells O.out rfl 2 _ rfl
              have n3 : wr.cell? ⟨gb, 3, none⟩ = some (.int .i64 (fnumv (fW (lOf s) 4))) := World.ownsRow.cells O.out rfl 3 _ rfl
              have n4 : wr.cell? ⟨gb, 4, none⟩ = some (.int .i64 (fnumv (fW (lOf s) 5))) := World.ownsRow.cells O.out rfl 4 _ rfl
              have RO3 := Lib.hid ((D.out.block _ zR).trans RO1.out)
              have B3 := Lib.hid (BW1.out.trans (D.out.mono BW1.out.size))
              have zgb : gb < wr.heap.size := (World.ownsRow.lt O.out gb rfl).2
              have zgR : w.heap.size < gb := Nat.lt_of_lt_of_le zR (World.ownsRow.lt O.out gb rfl).1
              by_cases hz : fnumv (fW (lOf s) 4) ≤ 3000
              · have hh : headOk (lOf s) = true := by rw [headOk, OK.out]; simpa using hz
                have HE : Hid (readS s = .tuple #[.agg #[.int .i64 0, .string (pathL (lOf s)), .string (cutv (fW (lOf s) 8)), .int .i64 (fnumv (fW (lOf s) 1)), .int .i64 (fnumv (fW (lOf s) 2)), .int .i64 (fnumv (fW (lOf s) 3)), .int .i64 (fnumv (fW (lOf s) 5)), .string (cutv (fW (lOf s) 10)), .string (cutv (fW (lOf s) 11)), .string ⟨#[]⟩], .string (fW (lOf s) 7), .int .i64 (fnumv (fW (lOf s) 4)), .int .i64 0]) := Lib.hid (by rw [readS, HS0.out hh, if_pos rfl]; rfl)
                have HP : Hid (pathL (lOf s) = if (cutv (fW (lOf s) 14)).size = 0 then cutv (fW (lOf s) 0) else cutv (fW (lOf s) 14) ++ ⟨#[47]⟩ ++ cutv (fW (lOf s) 0)) := Lib.hid rfl
                have C0 := Lib.hid (fun w => cut_spec (s.extract 0 100) w (by rw [ByteArray.size_extract]; omega))
                have C14 := Lib.hid (fun w => cut_spec (s.extract 345 500) w (by rw [ByteArray.size_extract]; omega))
                have C8 := Lib.hid (fun w => cut_spec (s.extract 157 257) w (by rw [ByteArray.size_extract]; omega))
                have C10 := Lib.hid (fun w => cut_spec (s.extract 265 297) w (by rw [ByteArray.size_extract]; omega))
                have C11 := Lib.hid (fun w => cut_spec (s.extract 297 329) w (by rw [ByteArray.size_extract]; omega))
                rw [show cutv (s.extract 0 100) = cutv (fW (lOf s) 0) from by rw [fW_ext s 0 100 (by omega) rfl]; rfl] at C0
                rw [show cutv (s.extract 345 500) = cutv (fW (lOf s) 14) from by rw [fW_ext s 14 155 (by omega) rfl]; rfl] at C14
                rw [show cutv (s.extract 157 257) = cutv (fW (lOf s) 8) from by rw [fW_ext s 8 100 (by omega) rfl]; rfl] at C8
                rw [show cutv (s.extract 265 297) = cutv (fW (lOf s) 10) from by rw [fW_ext s 10 32 (by omega) rfl]; rfl] at C10
                rw [show cutv (s.extract 297 329) = cutv (fW (lOf s) 11) from by rw [fW_ext s 11 32 (by omega) rfl]; rfl] at C11
                have z0 := fW_small (lOf s) 0
                have z14 := fW_small (lOf s) 14
                have hfl7 : fW (lOf s) 7 = s.extract 156 157 := fW_ext s 7 1 (by omega) rfl
                rw [hfl7] at HE
                generalize pathL (lOf s) = pth at *
                generalize cutv (fW (lOf s) 0) = t0 at *
                generalize cutv (fW (lOf s) 8) = t8 at *
                generalize cutv (fW (lOf s) 10) = t10 at *
                generalize cutv (fW (lOf s) 11) = t11 at *
                generalize cutv (fW (lOf s) 14) = t14 at *
                generalize fnumv (fW (lOf s) 1) = nm at *
                generalize fnumv (fW (lOf s) 2) = nu at *
                generalize fnumv (fW (lOf s) 3) = ng at *
                generalize fnumv (fW (lOf s) 4) = nz at *
                generalize fnumv (fW (lOf s) 5) = nt at *
                have d1 : (100 : Int) ≤ (s.size : Int) := by omega
                have d2 : (500 : Int) ≤ (s.size : Int) := by omega
                have d3 : (257 : Int) ≤ (s.size : Int) := by omega
                have d4 : (297 : Int) ≤ (s.size : Int) := by omega
                have d5 : (329 : Int) ≤ (s.size : Int) := by omega
                clear hh HS3 HS0 OK O AO hfl7
                go_wp2_with fail
                -- END0
                refine (C0.out _).mono ?_
                rintro e w3 ⟨rfl, rfl⟩
                go_wp2_with fail
                refine (C14.out _).mono ?_
                rintro e w3 ⟨rfl, rfl⟩
                have KC : Hid (∀ w', Below wr.heap.size wr w' → w'.cell? ⟨gb, 0, none⟩ = some (.int .i64 nm) ∧ w'.cell? ⟨gb, 1, none⟩ = some (.int .i64 nu) ∧ w'.cell? ⟨gb, 2, none⟩ = some (.int .i64 ng) ∧ w'.cell? ⟨gb, 3, none⟩ = some (.int .i64 nz) ∧ w'.cell? ⟨gb, 4, none⟩ = some (.int .i64 nt)) := Lib.hid (fun w' hb => ⟨(hb.cell (p := ⟨gb, 0, none⟩) zgb).trans n0, (hb.cell (p := ⟨gb, 1, none⟩) zgb).trans n1, (hb.cell (p := ⟨gb, 2, none⟩) zgb).trans n2, (hb.cell (p := ⟨gb, 3, none⟩) zgb).trans n3, (hb.cell (p := ⟨gb, 4, none⟩) zgb).trans n4⟩)
                clear n0 n1 n2 n3 n4
                have d6 : (157 : Int) ≤ (s.size : Int) := by omega
                by_cases hq : t14.size = 0
                · have HP2 : pth = t0 := HP.out.trans (if_pos hq)
                  have hq1 := empty_t hq
                  rw [HP2] at HE
                  clear HP HP2 C0 C14 hq
                  go_wp2_with fail
                  refine wp_region_cut 24 (by kernel_rfl) (fun w' => Below wr.heap.size wr w') (fun x y => Below x.heap.size x y) (vBox wr.heap.size (fun d v => match d with | 85 => v = .string t0 | 86 => v = .string s | 87 => v = .string (s.extract 157 257) | 88 => v = .string t8 | 89 => v = .slice (some ⟨gb, 0, none⟩) 5 cp | 90 => v = .pointer (some ⟨gb, 0, none⟩) | 91 => v = .int .i64 nm | 92 => v = .slice (some ⟨gb, 0, none⟩) 5 cp | 93 => v = .pointer (some ⟨gb, 1, none⟩) | 94 => v = .int .i64 nu | 95 => v = .slice (some ⟨gb, 0, none⟩) 5 cp | 96 => v = .pointer (some ⟨gb, 2, none⟩) | 97 => v = .int .i64 ng | 98 => v = .slice (some ⟨gb, 0, none⟩) 5 cp | 99 => v = .pointer (some ⟨gb, 4, none⟩) | 100 => v = .int .i64 nt | 101 => v = .string s | 102 => v = .string (s.extract 265 297) | 103 => v = .string t10 | 104 => v = .string s | 105 => v = .string (s.extract 297 329) | 106 => v = .string t11 | 107 => v = .agg #[.int .i64 0, .string t0, .string t8, .int .i64 nm, .int .i64 nu, .int .i64 ng, .int .i64 nt, .string t10, .string t11, .string ⟨#[]⟩] | _ => True)) (by kernel_rfl) (by kernel_rfl) ((Below.refl _ _).drew) (vBox_keep _ _) (by simp) ?hops ?hend
                  case hops =>
                    simp only [List.take_succ_cons, List.take_zero, List.forall_mem_cons]
                    refine ⟨?o85, ?o86, ?o87, ?o88, ?o89, ?o90, ?o91, ?o92, ?o93, ?o94, ?o95, ?o96, ?o97, ?o98, ?o99, ?o100, ?o101, ?o102, ?o103, ?o104, ?o105, ?o106, ?o107, ?o15, fun _ h => by cases h⟩
                    case o85 =>
                      intro Q a w2 hC hV hI
                      have e13 : a.eval (.tmp 13) = .string t0 := (hI 13 (by simp [Op.operands]) (by kernel_rfl)).trans rfl
                      have f13 : a.tmps.getD 13 undef = .string t0 := e13
                      have g13 : a.tmps[13]?.getD undef = .string t0 := by rw [← Array.getD_eq_getD_getElem?]; exact e13
                      refine op_val (.string t0) ?_ hC (Below.refl _ _) (by intro d hd; cases hd; exact rfl)
                      (clear hV hI hC; go_simp <;> (first | rfl | simp))
                    case o86 =>
                      intro Q a w2 hC hV hI
                      have e0 : a.eval (.tmp 0) = .string s := (hI 0 (by simp [Op.operands]) (by kernel_rfl)).trans rfl
                      have f0 : a.tmps.getD 0 undef = .string s := e0
                      have g0 : a.tmps[0]?.getD undef = .string s := by rw [← Array.getD_eq_getD_getElem?]; exact e0
                      refine op_val (.string s) ?_ hC (Below.refl _ _) (by intro d hd; cases hd; exact rfl)
                      (clear hV hI hC; go_simp <;> (first | rfl | simp))
                    case o87 =>
                      intro Q a w2 hC hV hI
                      have e86 : a.eval (.tmp 86) = .string s := hV 86 (by simp [Op.operands]) (by kernel_rfl)
                      have f86 : a.tmps.getD 86 undef = .string s := e86
                      have g86 : a.tmps[86]?.getD undef = .string s := by rw [← Array.getD_eq_getD_getElem?]; exact e86
                      refine op_val (.string (s.extract 157 257)) ?_ hC (Below.refl _ _) (by intro d hd; cases hd; exact rfl)
                      (clear hV hI hC; go_simp <;> (first | rfl | simp))
                    case o88 =>
                      intro Q a w2 hC hV hI
                      have e87 : a.eval (.tmp 87) = .string (s.extract 157 257) := hV 87 (by simp [Op.operands, Call.operands]) (by kernel_rfl)
                      have f87 : a.tmps.getD 87 undef = .string (s.extract 157 257) := e87
                      have g87 : a.tmps[87]?.getD undef = .string (s.extract 157 257) := by rw [← Array.getD_eq_getD_getElem?]; exact e87
                      refine op_call (f := 65) (args := #[.string (s.extract 157 257)]) (R := fun v y => v = .string t8 ∧ w2 = y) ?_ ((C8.out w2).mono ?_) ?_
                      · (clear hV hI hC; go_simp <;> (first | rfl | simp))
                      · rintro e y ⟨rfl, rfl⟩; exact ⟨_, rfl, rfl, rfl⟩
                      · rintro v y ⟨rfl, rfl⟩; exact ⟨hC, Below.refl _ _, by intro d hd; cases hd; exact rfl⟩
                    case o89 =>
                      intro Q a w2 hC hV hI
                      have e8 : a.eval (.tmp 8) = .slice (some ⟨gb, 0, none⟩) 5 cp := (hI 8 (by simp [Op.operands]) (by kernel_rfl)).trans rfl
                      have f8 : a.tmps.getD 8 undef = .slice (some ⟨gb, 0, none⟩) 5 cp := e8
                      have g8 : a.tmps[8]?.getD undef = .slice (some ⟨gb, 0, none⟩) 5 cp := by rw [← Array.getD_eq_getD_getElem?]; exact e8
                      refine op_val (.slice (some ⟨gb, 0, none⟩) 5 cp) ?_ hC (Below.refl _ _) (by intro d hd; cases hd; exact rfl)
                      (clear hV hI hC; go_simp <;> (first | rfl | simp))
                    case o90 =>
                      intro Q a w2 hC hV hI
                      have e89 : a.eval (.tmp 89) = .slice (some ⟨gb, 0, none⟩) 5 cp := hV 89 (by simp [Op.operands]) (by kernel_rfl)
                      have f89 : a.tmps.getD 89 undef = .slice (some ⟨gb, 0, none⟩) 5 cp := e89
                      have g89 : a.tmps[89]?.getD undef = .slice (some ⟨gb, 0, none⟩) 5 cp := by rw [← Array.getD_eq_getD_getElem?]; exact e89
                      refine op_val (.pointer (some ⟨gb, 0, none⟩)) ?_ hC (Below.refl _ _) (by intro d hd; cases hd; exact rfl)
                      (clear hV hI hC; go_simp <;> (first | rfl | simp))
                    case o91 =>
                      intro Q a w2 hC hV hI
                      have e90 : a.eval (.tmp 90) = .pointer (some ⟨gb, 0, none⟩) := hV 90 (by simp [Op.operands]) (by kernel_rfl)
                      have f90 : a.tmps.getD 90 undef = .pointer (some ⟨gb, 0, none⟩) := e90
                      have g90 : a.tmps[90]?.getD undef = .pointer (some ⟨gb, 0, none⟩) := by rw [← Array.getD_eq_getD_getElem?]; exact e90
                      have hK := KC.out w2 hC
                      refine op_val (.int .i64 nm) ?_ hC (Below.refl _ _) (by intro d hd; cases hd; exact rfl)
                      (clear hV hI hC; go_simp <;> (first | rfl | simp))
                    case o92 =>
                      intro Q a w2 hC hV hI
                      have e8 : a.eval (.tmp 8) = .slice (some ⟨gb, 0, none⟩) 5 cp := (hI 8 (by simp [Op.operands]) (by kernel_rfl)).trans rfl
                      have f8 : a.tmps.getD 8 undef = .slice (some ⟨gb, 0, none⟩) 5 cp := e8
                      have g8 : a.tmps[8]?.getD undef = .slice (some ⟨gb, 0, none⟩) 5 cp := by rw [← Array.getD_eq_getD_getElem?]; exact e8
                      refine op_val (.slice (some ⟨gb, 0, none⟩) 5 cp) ?_ hC (Below.refl _ _) (by intro d hd; cases hd; exact rfl)
                      (clear hV hI hC; go_simp <;> (first | rfl | simp))
                    case o93 =>
                      intro Q a w2 hC hV hI
                      have e92 : a.eval (.tmp 92) = .slice (some ⟨gb, 0, none⟩) 5 cp := hV 92 (by simp [Op.operands]) (by kernel_rfl)
                      have f92 : a.tmps.getD 92 undef = .slice (some ⟨gb, 0, none⟩) 5 cp := e92
                      have g92 : a.tmps[92]?.getD undef = .slice (some ⟨gb, 0, none⟩) 5 cp := by rw [← Array.getD_eq_getD_getElem?]; exact e92
                      refine op_val (.pointer (some ⟨gb, 1, none⟩)) ?_ hC (Below.refl _ _) (by intro d hd; cases hd; exact rfl)
                      (clear hV hI hC; go_simp <;> (first | rfl | simp))
                    case o94 =>
                      intro Q a w2 hC hV hI
                      have e93 : a.eval (.tmp 93) = .pointer (some ⟨gb, 1, none⟩) := hV 93 (by simp [Op.operands]) (by kernel_rfl)
                      have f93 : a.tmps.getD 93 undef = .pointer (some ⟨gb, 1, none⟩) := e93
                      have g93 : a.tmps[93]?.getD undef = .pointer (some ⟨gb, 1, none⟩) := by rw [← Array.getD_eq_getD_getElem?]; exact e93
                      have hK := KC.out w2 hC
                      refine op_val (.int .i64 nu) ?_ hC (Below.refl _ _) (by intro d hd; cases hd; exact rfl)
                      (clear hV hI hC; go_simp <;> (first | rfl | simp))
                    case o95 =>
                      intro Q a w2 hC hV hI
                      have e8 : a.eval (.tmp 8) = .slice (some ⟨gb, 0, none⟩) 5 cp := (hI 8 (by simp [Op.operands]) (by kernel_rfl)).trans rfl
                      have f8 : a.tmps.getD 8 undef = .slice (some ⟨gb, 0, none⟩) 5 cp := e8
                      have g8 : a.tmps[8]?.getD undef = .slice (some ⟨gb, 0, none⟩) 5 cp := by rw [← Array.getD_eq_getD_getElem?]; exact e8
                      refine op_val (.slice (some ⟨gb, 0, none⟩) 5 cp) ?_ hC (Below.refl _ _) (by intro d hd; cases hd; exact rfl)
                      (clear hV hI hC; go_simp <;> (first | rfl | simp))
                    case o96 =>
                      intro Q a w2 hC hV hI
                      have e95 : a.eval (.tmp 95) = .slice (some ⟨gb, 0, none⟩) 5 cp := hV 95 (by simp [Op.operands]) (by kernel_rfl)
                      have f95 : a.tmps.getD 95 undef = .slice (some ⟨gb, 0, none⟩) 5 cp := e95
                      have g95 : a.tmps[95]?.getD undef = .slice (some ⟨gb, 0, none⟩) 5 cp := by rw [← Array.getD_eq_getD_getElem?]; exact e95
                      refine op_val (.pointer (some ⟨gb, 2, none⟩)) ?_ hC (Below.refl _ _) (by intro d hd; cases hd; exact rfl)
                      (clear hV hI hC; go_simp <;> (first | rfl | simp))
                    case o97 =>
                      intro Q a w2 hC hV hI
                      have e96 : a.eval (.tmp 96) = .pointer (some ⟨gb, 2, none⟩) := hV 96 (by simp [Op.operands]) (by kernel_rfl)
                      have f96 : a.tmps.getD 96 undef = .pointer (some ⟨gb, 2, none⟩) := e96
                      have g96 : a.tmps[96]?.getD undef = .pointer (some ⟨gb, 2, none⟩) := by rw [← Array.getD_eq_getD_getElem?]; exact e96
                      have hK := KC.out w2 hC
                      refine op_val (.int .i64 ng) ?_ hC (Below.refl _ _) (by intro d hd; cases hd; exact rfl)
                      (clear hV hI hC; go_simp <;> (first | rfl | simp))
                    case o98 =>
                      intro Q a w2 hC hV hI
                      have e8 : a.eval (.tmp 8) = .slice (some ⟨gb, 0, none⟩) 5 cp := (hI 8 (by simp [Op.operands]) (by kernel_rfl)).trans rfl
                      have f8 : a.tmps.getD 8 undef = .slice (some ⟨gb, 0, none⟩) 5 cp := e8
                      have g8 : a.tmps[8]?.getD undef = .slice (some ⟨gb, 0, none⟩) 5 cp := by rw [← Array.getD_eq_getD_getElem?]; exact e8
                      refine op_val (.slice (some ⟨gb, 0, none⟩) 5 cp) ?_ hC (Below.refl _ _) (by intro d hd; cases hd; exact rfl)
                      (clear hV hI hC; go_simp <;> (first | rfl | simp))
                    case o99 =>
                      intro Q a w2 hC hV hI
                      have e98 : a.eval (.tmp 98) = .slice (some ⟨gb, 0, none⟩) 5 cp := hV 98 (by simp [Op.operands]) (by kernel_rfl)
                      have f98 : a.tmps.getD 98 undef = .slice (some ⟨gb, 0, none⟩) 5 cp := e98
                      have g98 : a.tmps[98]?.getD undef = .slice (some ⟨gb, 0, none⟩) 5 cp := by rw [← Array.getD_eq_getD_getElem?]; exact e98
                      refine op_val (.pointer (some ⟨gb, 4, none⟩)) ?_ hC (Below.refl _ _) (by intro d hd; cases hd; exact rfl)
                      (clear hV hI hC; go_simp <;> (first | rfl | simp))
                    case o100 =>
                      intro Q a w2 hC hV hI
                      have e99 : a.eval (.tmp 99) = .pointer (some ⟨gb, 4, none⟩) := hV 99 (by simp [Op.operands]) (by kernel_rfl)
                      have f99 : a.tmps.getD 99 undef = .pointer (some ⟨gb, 4, none⟩) := e99
                      have g99 : a.tmps[99]?.getD undef = .pointer (some ⟨gb, 4, none⟩) := by rw [← Array.getD_eq_getD_getElem?]; exact e99
                      have hK := KC.out w2 hC
                      refine op_val (.int .i64 nt) ?_ hC (Below.refl _ _) (by intro d hd; cases hd; exact rfl)
                      (clear hV hI hC; go_simp <;> (first | rfl | simp))
                    case o101 =>
                      intro Q a w2 hC hV hI
                      have e0 : a.eval (.tmp 0) = .string s := (hI 0 (by simp [Op.operands]) (by kernel_rfl)).trans rfl
                      have f0 : a.tmps.getD 0 undef = .string s := e0
                      have g0 : a.tmps[0]?.getD undef = .string s := by rw [← Array.getD_eq_getD_getElem?]; exact e0
                      refine op_val (.string s) ?_ hC (Below.refl _ _) (by intro d hd; cases hd; exact rfl)
                      (clear hV hI hC; go_simp <;> (first | rfl | simp))
                    case o102 =>
                      intro Q a w2 hC hV hI
                      have e101 : a.eval (.tmp 101) = .string s := hV 101 (by simp [Op.operands]) (by kernel_rfl)
                      have f101 : a.tmps.getD 101 undef = .string s := e101
                      have g101 : a.tmps[101]?.getD undef = .string s := by rw [← Array.getD_eq_getD_getElem?]; exact e101
                      refine op_val (.string (s.extract 265 297)) ?_ hC (Below.refl _ _) (by intro d hd; cases hd; exact rfl)
                      (clear hV hI hC; go_simp <;> (first | rfl | simp))
                    case o103 =>
                      intro Q a w2 hC hV hI
                      have e102 : a.eval (.tmp 102) = .string (s.extract 265 297) := hV 102 (by simp [Op.operands, Call.operands]) (by kernel_rfl)
                      have f102 : a.tmps.getD 102 undef = .string (s.extract 265 297) := e102
                      have g102 : a.tmps[102]?.getD undef = .string (s.extract 265 297) := by rw [← Array.getD_eq_getD_getElem?]; exact e102
                      refine op_call (f := 65) (args := #[.string (s.extract 265 297)]) (R := fun v y => v = .string t10 ∧ w2 = y) ?_ ((C10.out w2).mono ?_) ?_
                      · (clear hV hI hC; go_simp <;> (first | rfl | simp))
                      · rintro e y ⟨rfl, rfl⟩; exact ⟨_, rfl, rfl, rfl⟩
                      · rintro v y ⟨rfl, rfl⟩; exact ⟨hC, Below.refl _ _, by intro d hd; cases hd; exact rfl⟩
                    case o104 =>
                      intro Q a w2 hC hV hI
                      have e0 : a.eval (.tmp 0) = .string s := (hI 0 (by simp [Op.operands]) (by kernel_rfl)).trans rfl
                      have f0 : a.tmps.getD 0 undef = .string s := e0
                      have g0 : a.tmps[0]?.getD undef = .string s := by rw [← Array.getD_eq_getD_getElem?]; exact e0
                      refine op_val (.string s) ?_ hC (Below.refl _ _) (by intro d hd; cases hd; exact rfl)
                      (clear hV hI hC; go_simp <;> (first | rfl | simp))
                    case o105 =>
                      intro Q a w2 hC hV hI
                      have e104 : a.eval (.tmp 104) = .string s := hV 104 (by simp [Op.operands]) (by kernel_rfl)
                      have f104 : a.tmps.getD 104 undef = .string s := e104
                      have g104 : a.tmps[104]?.getD undef = .string s := by rw [← Array.getD_eq_getD_getElem?]; exact e104
                      refine op_val (.string (s.extract 297 329)) ?_ hC (Below.refl _ _) (by intro d hd; cases hd; exact rfl)
                      (clear hV hI hC; go_simp <;> (first | rfl | simp))
                    case o106 =>
                      intro Q a w2 hC hV hI
                      have e105 : a.eval (.tmp 105) = .string (s.extract 297 329) := hV 105 (by simp [Op.operands, Call.operands]) (by kernel_rfl)
                      have f105 : a.tmps.getD 105 undef = .string (s.extract 297 329) := e105
                      have g105 : a.tmps[105]?.getD undef = .string (s.extract 297 329) := by rw [← Array.getD_eq_getD_getElem?]; exact e105
                      refine op_call (f := 65) (args := #[.string (s.extract 297 329)]) (R := fun v y => v = .string t11 ∧ w2 = y) ?_ ((C11.out w2).mono ?_) ?_
                      · (clear hV hI hC; go_simp <;> (first | rfl | simp))
                      · rintro e y ⟨rfl, rfl⟩; exact ⟨_, rfl, rfl, rfl⟩
                      · rintro v y ⟨rfl, rfl⟩; exact ⟨hC, Below.refl _ _, by intro d hd; cases hd; exact rfl⟩
                    case o107 =>
                      intro Q a w2 hC hV hI
                      have e85 : a.eval (.tmp 85) = .string t0 := hV 85 (by simp [Op.operands]) (by kernel_rfl)
                      have f85 : a.tmps.getD 85 undef = .string t0 := e85
                      have g85 : a.tmps[85]?.getD undef = .string t0 := by rw [← Array.getD_eq_getD_getElem?]; exact e85
                      have e88 : a.eval (.tmp 88) = .string t8 := hV 88 (by simp [Op.operands]) (by kernel_rfl)
                      have f88 : a.tmps.getD 88 undef = .string t8 := e88
                      have g88 : a.tmps[88]?.getD undef = .string t8 := by rw [← Array.getD_eq_getD_getElem?]; exact e88
                      have e91 : a.eval (.tmp 91) = .int .i64 nm := hV 91 (by simp [Op.operands]) (by kernel_rfl)
                      have f91 : a.tmps.getD 91 undef = .int .i64 nm := e91
                      have g91 : a.tmps[91]?.getD undef = .int .i64 nm := by rw [← Array.getD_eq_getD_getElem?]; exact e91
                      have e94 : a.eval (.tmp 94) = .int .i64 nu := hV 94 (by simp [Op.operands]) (by kernel_rfl)
                      have f94 : a.tmps.getD 94 undef = .int .i64 nu := e94
                      have g94 : a.tmps[94]?.getD undef = .int .i64 nu := by rw [← Array.getD_eq_getD_getElem?]; exact e94
                      have e97 : a.eval (.tmp 97) = .int .i64 ng := hV 97 (by simp [Op.operands]) (by kernel_rfl)
                      have f97 : a.tmps.getD 97 undef = .int .i64 ng := e97
                      have g97 : a.tmps[97]?.getD undef = .int .i64 ng := by rw [← Array.getD_eq_getD_getElem?]; exact e97
                      have e100 : a.eval (.tmp 100) = .int .i64 nt := hV 100 (by simp [Op.operands]) (by kernel_rfl)
                      have f100 : a.tmps.getD 100 undef = .int .i64 nt := e100
                      have g100 : a.tmps[100]?.getD undef = .int .i64 nt := by rw [← Array.getD_eq_getD_getElem?]; exact e100
                      have e103 : a.eval (.tmp 103) = .string t10 := hV 103 (by simp [Op.operands]) (by kernel_rfl)
                      have f103 : a.tmps.getD 103 undef = .string t10 := e103
                      have g103 : a.tmps[103]?.getD undef = .string t10 := by rw [← Array.getD_eq_getD_getElem?]; exact e103
                      have e106 : a.eval (.tmp 106) = .string t11 := hV 106 (by simp [Op.operands]) (by kernel_rfl)
                      have f106 : a.tmps.getD 106 undef = .string t11 := e106
                      have g106 : a.tmps[106]?.getD undef = .string t11 := by rw [← Array.getD_eq_getD_getElem?]; exact e106
                      refine op_val (.agg #[.int .i64 0, .string t0, .string t8, .int .i64 nm, .int .i64 nu, .int .i64 ng, .int .i64 nt, .string t10, .string t11, .string ⟨#[]⟩]) ?_ hC (Below.refl _ _) (by intro d hd; cases hd; exact rfl)
                      (clear hV hI hC; go_simp <;> (first | rfl | simp))
                    case o15 =>
                      intro Q a w2 hC hV hI
                      refine op_val (.pointer (some ⟨w2.heap.size, 0, none⟩)) (w' := w2.alloc (.cells zEnt 32)) ?_ (hC.alloc hC.size _) ((Below.refl _ _).alloc (Nat.le_refl _) _) ?_
                      · (clear hV hI hC; go_simp <;> (first | rfl | simp))
                      · intro d hd; cases hd; exact ⟨w2.heap.size, rfl, hC.size, heap_alloc_last _ _⟩
                  case hend =>
                    intro f w5 hC hall
                    simp only [List.take_succ_cons, List.take_zero, List.drop_succ_cons, List.drop_zero] at hall ⊢
                    simp only [List.forall_mem_cons] at hall
                    obtain ⟨h85, h86, h87, h88, h89, h90, h91, h92, h93, h94, h95, h96, h97, h98, h99, h100, h101, h102, h103, h104, h105, h106, h107, h15, _⟩ := hall
                    replace h85 : f 85 = .string t0 := h85 85 rfl
                    replace h86 : f 86 = .string s := h86 86 rfl
                    replace h87 : f 87 = .string (s.extract 157 257) := h87 87 rfl
                    replace h88 : f 88 = .string t8 := h88 88 rfl
                    replace h89 : f 89 = .slice (some ⟨gb, 0, none⟩) 5 cp := h89 89 rfl
                    replace h90 : f 90 = .pointer (some ⟨gb, 0, none⟩) := h90 90 rfl
                    replace h91 : f 91 = .int .i64 nm := h91 91 rfl
                    replace h92 : f 92 = .slice (some ⟨gb, 0, none⟩) 5 cp := h92 92 rfl
                    replace h93 : f 93 = .pointer (some ⟨gb, 1, none⟩) := h93 93 rfl
                    replace h94 : f 94 = .int .i64 nu := h94 94 rfl
                    replace h95 : f 95 = .slice (some ⟨gb, 0, none⟩) 5 cp := h95 95 rfl
                    replace h96 : f 96 = .pointer (some ⟨gb, 2, none⟩) := h96 96 rfl
                    replace h97 : f 97 = .int .i64 ng := h97 97 rfl
                    replace h98 : f 98 = .slice (some ⟨gb, 0, none⟩) 5 cp := h98 98 rfl
                    replace h99 : f 99 = .pointer (some ⟨gb, 4, none⟩) := h99 99 rfl
                    replace h100 : f 100 = .int .i64 nt := h100 100 rfl
                    replace h101 : f 101 = .string s := h101 101 rfl
                    replace h102 : f 102 = .string (s.extract 265 297) := h102 102 rfl
                    replace h103 : f 103 = .string t10 := h103 103 rfl
                    replace h104 : f 104 = .string s := h104 104 rfl
                    replace h105 : f 105 = .string (s.extract 297 329) := h105 105 rfl
                    replace h106 : f 106 = .string t11 := h106 106 rfl
                    replace h107 : f 107 = .agg #[.int .i64 0, .string t0, .string t8, .int .i64 nm, .int .i64 nu, .int .i64 ng, .int .i64 nt, .string t10, .string t11, .string ⟨#[]⟩] := h107 107 rfl
                    obtain ⟨G, hG15, hGB, hGO⟩ : ∃ G, f 15 = .pointer (some ⟨G, 0, none⟩) ∧ wr.heap.size ≤ G ∧ w5.heap[G]? = some (.cells zEnt 32 (0, 0)) := h15 15 rfl
                    simp only [putAll, Act.put, List.setIfInBounds_toArray, List.set_cons_succ, List.set_cons_zero, h85, h86, h87, h88, h89, h90, h91, h92, h93, h94, h95, h96, h97, h98, h99, h100, h101, h102, h103, h104, h105, h106, h107, hG15]
                    clear h85 h86 h87 h88 h89 h90 h91 h92 h93 h94 h95 h96 h97 h98 h99 h100 h101 h102 h103 h104 h105 h106 h107 hG15
                    have HS1 := Lib.hid (run_storeVar_row (P := Tryz.prog) w5 G 32 32 zEnt #[.int .i64 0, .string t0, .string t8, .int .i64 nm, .int .i64 nu, .int .i64 ng, .int .i64 nt, .string t10, .string t11, .string ⟨#[]⟩] hGO (by rw [Tryz.sizeEnt]; rfl) rfl (by simp [Value.oneCell']))
                    have OG := setRow_heap _ _ _ #[.int .i64 0, .string t0, .string t8, .int .i64 nm, .int .i64 nu, .int .i64 ng, .int .i64 nt, .string t10, .string t11, .string ⟨#[]⟩] _ _ hGO
                    have BG := hC.trans (below_set (w := w5) hGB #[.int .i64 0, .string t0, .string t8, .int .i64 nm, .int .i64 nu, .int .i64 ng, .int .i64 nt, .string t10, .string t11, .string ⟨#[]⟩])
                    go_wp2_with ((with_reducible refine wpList_store_eq rfl 32 _ _ rfl ⟨G, 0, none⟩ ?_ ?_ HS1.out ?_); rfl; rfl)
                    clear HS1 hGO hC
                    generalize w5.setRow G #[.int .i64 0, .string t0, .string t8, .int .i64 nm, .int .i64 nu, .int .i64 ng, .int .i64 nt, .string t10, .string t11, .string ⟨#[]⟩] = w6 at *
                    have zG := obj_lt OG
                    have HLG : Hid (∀ w' : World, w'.heap[G]? = some (.cells #[.int .i64 0, .string t0, .string t8, .int .i64 nm, .int .i64 nu, .int .i64 ng, .int .i64 nt, .string t10, .string t11, .string ⟨#[]⟩] 32 (0, 0)) → w'.cell? ⟨G, 0, none⟩ = some (.int .i64 0) ∧ w'.cell? ⟨G, 1, none⟩ = some (.string t0) ∧ w'.cell? ⟨G, 2, none⟩ = some (.string t8) ∧ w'.cell? ⟨G, 3, none⟩ = some (.int .i64 nm) ∧ w'.cell? ⟨G, 4, none⟩ = some (.int .i64 nu) ∧ w'.cell? ⟨G, 5, none⟩ = some (.int .i64 ng) ∧ w'.cell? ⟨G, 6, none⟩ = some (.int .i64 nt) ∧ w'.cell? ⟨G, 7, none⟩ = some (.string t10) ∧ w'.cell? ⟨G, 8, none⟩ = some (.string t11) ∧ w'.cell? ⟨G, 9, none⟩ = some (.string ⟨#[]⟩)) := Lib.hid (fun w' h1 => by refine ⟨?_, ?_, ?_, ?_, ?_, ?_, ?_, ?_, ?_, ?_⟩ <;> (rw [cell_of_row _ _ _ _ _ _ h1]; rfl))
                    have N3 := Lib.hid (KC.out w6 BG).2.2.2.1
                    have RO6 := Lib.hid ((BG.block _ (obj_lt RO3.out)).trans RO3.out)
                    have B6 := Lib.hid (B3.out.trans (BG.mono B3.out.size))
                    have zRG : w.heap.size < G := Nat.lt_of_lt_of_le (obj_lt RO3.out) hGB
                    have OG6 := Lib.hid OG
                    clear BG OG KC
                    refine wp_region_u (by kernel_rfl) (fun w' => Below w.heap.size w w' ∧ w'.heap[G]? = some (.cells #[.int .i64 0, .string t0, .string t8, .int .i64 nm, .int .i64 nu, .int .i64 ng, .int .i64 nt, .string t10, .string t11, .string ⟨#[]⟩] 32 (0, 0)) ∧ w'.cell? ⟨gb, 3, none⟩ = some (.int .i64 nz) ∧ (w'.heap[w.heap.size]? = some (.cells zEnt 32 (0, 0)) ∨ w'.heap[w.heap.size]? = some (.cells #[.int .i64 0, .string t0, .string t8, .int .i64 nm, .int .i64 nu, .int .i64 ng, .int .i64 nt, .string t10, .string t11, .string ⟨#[]⟩] 32 (0, 0)))) (fun x y => y.heap[w.heap.size]? = x.heap[w.heap.size]? ∨ y.heap[w.heap.size]? = some (.cells #[.int .i64 0, .string t0, .string t8, .int .i64 nm, .int .i64 nu, .int .i64 ng, .int .i64 nt, .string t10, .string t11, .string ⟨#[]⟩] 32 (0, 0))) (fun d v _ => match d with | 108 => v = .agg #[.int .i64 0, .string t0, .string t8, .int .i64 nm, .int .i64 nu, .int .i64 ng, .int .i64 nt, .string t10, .string t11, .string ⟨#[]⟩] | 109 => v = .string s | 110 => v = .string (s.extract 156 157) | 111 => v = .slice (some ⟨gb, 0, none⟩) 5 cp | 112 => v = .pointer (some ⟨gb, 3, none⟩) | 113 => v = .int .i64 nz | 3 => v = .string (s.extract 156 157) | 4 => v = .int .i64 nz | 5 => v = .int .i64 0 | _ => True) (fun o w' => o.dst = none → w'.heap[w.heap.size]? = some (.cells #[.int .i64 0, .string t0, .string t8, .int .i64 nm, .int .i64 nu, .int .i64 ng, .int .i64 nt, .string t10, .string t11, .string ⟨#[]⟩] 32 (0, 0))) (by kernel_rfl) ⟨B6.out.drew, OG6.out, N3.out, .inl RO6.out⟩ (fun _ _ _ _ _ _ h => h) (fun _ _ _ _ hs hu hd => Or.elim hs (fun h => h.trans (hu hd)) (fun h => h)) ?hops ?hend
                    case hops =>
                      simp only [List.forall_mem_cons]
                      refine ⟨?o108, ?o109, ?o110, ?o111, ?o112, ?o113, ?os, ?o3, ?o4, ?o5, fun _ h => by cases h⟩
                      case o108 =>
                        intro Q a w2 hC hV hI
                        have e15 : a.eval (.tmp 15) = .pointer (some ⟨G, 0, none⟩) := (hI 15 (by simp [Op.operands]) (by kernel_rfl)).trans rfl
                        have f15 : a.tmps.getD 15 undef = .pointer (some ⟨G, 0, none⟩) := e15
                        have g15 : a.tmps[15]?.getD undef = .pointer (some ⟨G, 0, none⟩) := by rw [← Array.getD_eq_getD_getElem?]; exact e15
                        have hK := HLG.out w2 hC.2.1
                        refine opU_val (C := fun w' => Below w.heap.size w w' ∧ w'.heap[G]? = some (.cells #[.int .i64 0, .string t0, .string t8, .int .i64 nm, .int .i64 nu, .int .i64 ng, .int .i64 nt, .string t10, .string t11, .string ⟨#[]⟩] 32 (0, 0)) ∧ w'.cell? ⟨gb, 3, none⟩ = some (.int .i64 nz) ∧ (w'.heap[w.heap.size]? = some (.cells zEnt 32 (0, 0)) ∨ w'.heap[w.heap.size]? = some (.cells #[.int .i64 0, .string t0, .string t8, .int .i64 nm, .int .i64 nu, .int .i64 ng, .int .i64 nt, .string t10, .string t11, .string ⟨#[]⟩] 32 (0, 0)))) (St := fun x y => y.heap[w.heap.size]? = x.heap[w.heap.size]? ∨ y.heap[w.heap.size]? = some (.cells #[.int .i64 0, .string t0, .string t8, .int .i64 nm, .int .i64 nu, .int .i64 ng, .int .i64 nt, .string t10, .string t11, .string ⟨#[]⟩] 32 (0, 0))) (V := fun d v _ => match d with | 108 => v = .agg #[.int .i64 0, .string t0, .string t8, .int .i64 nm, .int .i64 nu, .int .i64 ng, .int .i64 nt, .string t10, .string t11, .string ⟨#[]⟩] | 109 => v = .string s | 110 => v = .string (s.extract 156 157) | 111 => v = .slice (some ⟨gb, 0, none⟩) 5 cp | 112 => v = .pointer (some ⟨gb, 3, none⟩) | 113 => v = .int .i64 nz | 3 => v = .string (s.extract 156 157) | 4 => v = .int .i64 nz | 5 => v = .int .i64 0 | _ => True) (U := fun o w' => o.dst = none → w'.heap[w.heap.size]? = some (.cells #[.int .i64 0, .string t0, .string t8, .int .i64 nm, .int .i64 nu, .int .i64 ng, .int .i64 nt, .string t10, .string t11, .string ⟨#[]⟩] 32 (0, 0))) (w' := w2) (.agg #[.int .i64 0, .string t0, .string t8, .int .i64 nm, .int .i64 nu, .int .i64 ng, .int .i64 nt, .string t10, .string t11, .string ⟨#[]⟩]) ?_ ?_ ?_ ?_ ?_
                        · (clear hV hI hC; go_simp <;> (first | rfl | simp))
                        · exact hC
                        · exact Or.inl rfl
                        · intro d hd; cases hd; exact rfl
                        · intro h; cases h
                      case o109 =>
                        intro Q a w2 hC hV hI
                        have e0 : a.eval (.tmp 0) = .string s := (hI 0 (by simp [Op.operands]) (by kernel_rfl)).trans rfl
                        have f0 : a.tmps.getD 0 undef = .string s := e0
                        have g0 : a.tmps[0]?.getD undef = .string s := by rw [← Array.getD_eq_getD_getElem?]; exact e0
                        refine opU_val (C := fun w' => Below w.heap.size w w' ∧ w'.heap[G]? = some (.cells #[.int .i64 0, .string t0, .string t8, .int .i64 nm, .int .i64 nu, .int .i64 ng, .int .i64 nt, .string t10, .string t11, .string ⟨#[]⟩] 32 (0, 0)) ∧ w'.cell? ⟨gb, 3, none⟩ = some (.int .i64 nz) ∧ (w'.heap[w.heap.size]? = some (.cells zEnt 32 (0, 0)) ∨ w'.heap[w.heap.size]? = some (.cells #[.int .i64 0, .string t0, .string t8, .int .i64 nm, .int .i64 nu, .int .i64 ng, .int .i64 nt, .string t10, .string t11, .string ⟨#[]⟩] 32 (0, 0)))) (St := fun x y => y.heap[w.heap.size]? = x.heap[w.heap.size]? ∨ y.heap[w.heap.size]? = some (.cells #[.int .i64 0, .string t0, .string t8, .int .i64 nm, .int .i64 nu, .int .i64 ng, .int .i64 nt, .string t10, .string t11, .string ⟨#[]⟩] 32 (0, 0))) (V := fun d v _ => match d with | 108 => v = .agg #[.int .i64 0, .string t0, .string t8, .int .i64 nm, .int .i64 nu, .int .i64 ng, .int .i64 nt, .string t10, .string t11, .string ⟨#[]⟩] | 109 => v = .string s | 110 => v = .string (s.extract 156 157) | 111 => v = .slice (some ⟨gb, 0, none⟩) 5 cp | 112 => v = .pointer (some ⟨gb, 3, none⟩) | 113 => v = .int .i64 nz | 3 => v = .string (s.extract 156 157) | 4 => v = .int .i64 nz | 5 => v = .int .i64 0 | _ => True) (U := fun o w' => o.dst = none → w'.heap[w.heap.size]? = some (.cells #[.int .i64 0, .string t0, .string t8, .int .i64 nm, .int .i64 nu, .int .i64 ng, .int .i64 nt, .string t10, .string t11, .string ⟨#[]⟩] 32 (0, 0))) (w' := w2) (.string s) ?_ ?_ ?_ ?_ ?_
                        · (clear hV hI hC; go_simp <;> (first | rfl | simp))
                        · exact hC
                        · exact Or.inl rfl
                        · intro d hd; cases hd; exact rfl
                        · intro h; cases h
                      case o110 =>
                        intro Q a w2 hC hV hI
                        have e109 : a.eval (.tmp 109) = .string s := hV 109 (by simp [Op.operands]) (by kernel_rfl)
                        have f109 : a.tmps.getD 109 undef = .string s := e109
                        have g109 : a.tmps[109]?.getD undef = .string s := by rw [← Array.getD_eq_getD_getElem?]; exact e109
                        refine opU_val (C := fun w' => Below w.heap.size w w' ∧ w'.heap[G]? = some (.cells #[.int .i64 0, .string t0, .string t8, .int .i64 nm, .int .i64 nu, .int .i64 ng, .int .i64 nt, .string t10, .string t11, .string ⟨#[]⟩] 32 (0, 0)) ∧ w'.cell? ⟨gb, 3, none⟩ = some (.int .i64 nz) ∧ (w'.heap[w.heap.size]? = some (.cells zEnt 32 (0, 0)) ∨ w'.heap[w.heap.size]? = some (.cells #[.int .i64 0, .string t0, .string t8, .int .i64 nm, .int .i64 nu, .int .i64 ng, .int .i64 nt, .string t10, .string t11, .string ⟨#[]⟩] 32 (0, 0)))) (St := fun x y => y.heap[w.heap.size]? = x.heap[w.heap.size]? ∨ y.heap[w.heap.size]? = some (.cells #[.int .i64 0, .string t0, .string t8, .int .i64 nm, .int .i64 nu, .int .i64 ng, .int .i64 nt, .string t10, .string t11, .string ⟨#[]⟩] 32 (0, 0))) (V := fun d v _ => match d with | 108 => v = .agg #[.int .i64 0, .string t0, .string t8, .int .i64 nm, .int .i64 nu, .int .i64 ng, .int .i64 nt, .string t10, .string t11, .string ⟨#[]⟩] | 109 => v = .string s | 110 => v = .string (s.extract 156 157) | 111 => v = .slice (some ⟨gb, 0, none⟩) 5 cp | 112 => v = .pointer (some ⟨gb, 3, none⟩) | 113 => v = .int .i64 nz | 3 => v = .string (s.extract 156 157) | 4 => v = .int .i64 nz | 5 => v = .int .i64 0 | _ => True) (U := fun o w' => o.dst = none → w'.heap[w.heap.size]? = some (.cells #[.int .i64 0, .string t0, .string t8, .int .i64 nm, .int .i64 nu, .int .i64 ng, .int .i64 nt, .string t10, .string t11, .string ⟨#[]⟩] 32 (0, 0))) (w' := w2) (.string (s.extract 156 157)) ?_ ?_ ?_ ?_ ?_
                        · (clear hV hI hC; go_simp <;> (first | rfl | simp))
                        · exact hC
                        · exact Or.inl rfl
                        · intro d hd; cases hd; exact rfl
                        · intro h; cases h
                      case o111 =>
                        intro Q a w2 hC hV hI
                        have e8 : a.eval (.tmp 8) = .slice (some ⟨gb, 0, none⟩) 5 cp := (hI 8 (by simp [Op.operands]) (by kernel_rfl)).trans rfl
                        have f8 : a.tmps.getD 8 undef = .slice (some ⟨gb, 0, none⟩) 5 cp := e8
                        have g8 : a.tmps[8]?.getD undef = .slice (some ⟨gb, 0, none⟩) 5 cp := by rw [← Array.getD_eq_getD_getElem?]; exact e8
                        refine opU_val (C := fun w' => Below w.heap.size w w' ∧ w'.heap[G]? = some (.cells #[.int .i64 0, .string t0, .string t8, .int .i64 nm, .int .i64 nu, .int .i64 ng, .int .i64 nt, .string t10, .string t11, .string ⟨#[]⟩] 32 (0, 0)) ∧ w'.cell? ⟨gb, 3, none⟩ = some (.int .i64 nz) ∧ (w'.heap[w.heap.size]? = some (.cells zEnt 32 (0, 0)) ∨ w'.heap[w.heap.size]? = some (.cells #[.int .i64 0, .string t0, .string t8, .int .i64 nm, .int .i64 nu, .int .i64 ng, .int .i64 nt, .string t10, .string t11, .string ⟨#[]⟩] 32 (0, 0)))) (St := fun x y => y.heap[w.heap.size]? = x.heap[w.heap.size]? ∨ y.heap[w.heap.size]? = some (.cells #[.int .i64 0, .string t0, .string t8, .int .i64 nm, .int .i64 nu, .int .i64 ng, .int .i64 nt, .string t10, .string t11, .string ⟨#[]⟩] 32 (0, 0))) (V := fun d v _ => match d with | 108 => v = .agg #[.int .i64 0, .string t0, .string t8, .int .i64 nm, .int .i64 nu, .int .i64 ng, .int .i64 nt, .string t10, .string t11, .string ⟨#[]⟩] | 109 => v = .string s | 110 => v = .string (s.extract 156 157) | 111 => v = .slice (some ⟨gb, 0, none⟩) 5 cp | 112 => v = .pointer (some ⟨gb, 3, none⟩) | 113 => v = .int .i64 nz | 3 => v = .string (s.extract 156 157) | 4 => v = .int .i64 nz | 5 => v = .int .i64 0 | _ => True) (U := fun o w' => o.dst = none → w'.heap[w.heap.size]? = some (.cells #[.int .i64 0, .string t0, .string t8, .int .i64 nm, .int .i64 nu, .int .i64 ng, .int .i64 nt, .string t10, .string t11, .string ⟨#[]⟩] 32 (0, 0))) (w' := w2) (.slice (some ⟨gb, 0, none⟩) 5 cp) ?_ ?_ ?_ ?_ ?_
                        · (clear hV hI hC; go_simp <;> (first | rfl | simp))
                        · exact hC
                        · exact Or.inl rfl
                        · intro d hd; cases hd; exact rfl
                        · intro h; cases h
                      case o112 =>
                        intro Q a w2 hC hV hI
                        have e111 : a.eval (.tmp 111) = .slice (some ⟨gb, 0, none⟩) 5 cp := hV 111 (by simp [Op.operands]) (by kernel_rfl)
                        have f111 : a.tmps.getD 111 undef = .slice (some ⟨gb, 0, none⟩) 5 cp := e111
                        have g111 : a.tmps[111]?.getD undef = .slice (some ⟨gb, 0, none⟩) 5 cp := by rw [← Array.getD_eq_getD_getElem?]; exact e111
                        refine opU_val (C := fun w' => Below w.heap.size w w' ∧ w'.heap[G]? = some (.cells #[.int .i64 0, .string t0, .string t8, .int .i64 nm, .int .i64 nu, .int .i64 ng, .int .i64 nt, .string t10, .string t11, .string ⟨#[]⟩] 32 (0, 0)) ∧ w'.cell? ⟨gb, 3, none⟩ = some (.int .i64 nz) ∧ (w'.heap[w.heap.size]? = some (.cells zEnt 32 (0, 0)) ∨ w'.heap[w.heap.size]? = some (.cells #[.int .i64 0, .string t0, .string t8, .int .i64 nm, .int .i64 nu, .int .i64 ng, .int .i64 nt, .string t10, .string t11, .string ⟨#[]⟩] 32 (0, 0)))) (St := fun x y => y.heap[w.heap.size]? = x.heap[w.heap.size]? ∨ y.heap[w.heap.size]? = some (.cells #[.int .i64 0, .string t0, .string t8, .int .i64 nm, .int .i64 nu, .int .i64 ng, .int .i64 nt, .string t10, .string t11, .string ⟨#[]⟩] 32 (0, 0))) (V := fun d v _ => match d with | 108 => v = .agg #[.int .i64 0, .string t0, .string t8, .int .i64 nm, .int .i64 nu, .int .i64 ng, .int .i64 nt, .string t10, .string t11, .string ⟨#[]⟩] | 109 => v = .string s | 110 => v = .string (s.extract 156 157) | 111 => v = .slice (some ⟨gb, 0, none⟩) 5 cp | 112 => v = .pointer (some ⟨gb, 3, none⟩) | 113 => v = .int .i64 nz | 3 => v = .string (s.extract 156 157) | 4 => v = .int .i64 nz | 5 => v = .int .i64 0 | _ => True) (U := fun o w' => o.dst = none → w'.heap[w.heap.size]? = some (.cells #[.int .i64 0, .string t0, .string t8, .int .i64 nm, .int .i64 nu, .int .i64 ng, .int .i64 nt, .string t10, .string t11, .string ⟨#[]⟩] 32 (0, 0))) (w' := w2) (.pointer (some ⟨gb, 3, none⟩)) ?_ ?_ ?_ ?_ ?_
                        · (clear hV hI hC; go_simp <;> (first | rfl | simp))
                        · exact hC
                        · exact Or.inl rfl
                        · intro d hd; cases hd; exact rfl
                        · intro h; cases h
                      case o113 =>
                        intro Q a w2 hC hV hI
                        have e112 : a.eval (.tmp 112) = .pointer (some ⟨gb, 3, none⟩) := hV 112 (by simp [Op.operands]) (by kernel_rfl)
                        have f112 : a.tmps.getD 112 undef = .pointer (some ⟨gb, 3, none⟩) := e112
                        have g112 : a.tmps[112]?.getD undef = .pointer (some ⟨gb, 3, none⟩) := by rw [← Array.getD_eq_getD_getElem?]; exact e112
                        have hK := hC.2.2.1
                        refine opU_val (C := fun w' => Below w.heap.size w w' ∧ w'.heap[G]? = some (.cells #[.int .i64 0, .string t0, .string t8, .int .i64 nm, .int .i64 nu, .int .i64 ng, .int .i64 nt, .string t10, .string t11, .string ⟨#[]⟩] 32 (0, 0)) ∧ w'.cell? ⟨gb, 3, none⟩ = some (.int .i64 nz) ∧ (w'.heap[w.heap.size]? = some (.cells zEnt 32 (0, 0)) ∨ w'.heap[w.heap.size]? = some (.cells #[.int .i64 0, .string t0, .string t8, .int .i64 nm, .int .i64 nu, .int .i64 ng, .int .i64 nt, .string t10, .string t11, .string ⟨#[]⟩] 32 (0, 0)))) (St := fun x y => y.heap[w.heap.size]? = x.heap[w.heap.size]? ∨ y.heap[w.heap.size]? = some (.cells #[.int .i64 0, .string t0, .string t8, .int .i64 nm, .int .i64 nu, .int .i64 ng, .int .i64 nt, .string t10, .string t11, .string ⟨#[]⟩] 32 (0, 0))) (V := fun d v _ => match d with | 108 => v = .agg #[.int .i64 0, .string t0, .string t8, .int .i64 nm, .int .i64 nu, .int .i64 ng, .int .i64 nt, .string t10, .string t11, .string ⟨#[]⟩] | 109 => v = .string s | 110 => v = .string (s.extract 156 157) | 111 => v = .slice (some ⟨gb, 0, none⟩) 5 cp | 112 => v = .pointer (some ⟨gb, 3, none⟩) | 113 => v = .int .i64 nz | 3 => v = .string (s.extract 156 157) | 4 => v = .int .i64 nz | 5 => v = .int .i64 0 | _ => True) (U := fun o w' => o.dst = none → w'.heap[w.heap.size]? = some (.cells #[.int .i64 0, .string t0, .string t8, .int .i64 nm, .int .i64 nu, .int .i64 ng, .int .i64 nt, .string t10, .string t11, .string ⟨#[]⟩] 32 (0, 0))) (w' := w2) (.int .i64 nz) ?_ ?_ ?_ ?_ ?_
                        · (clear hV hI hC; go_simp <;> (first | rfl | simp))
                        · exact hC
                        · exact Or.inl rfl
                        · intro d hd; cases hd; exact rfl
                        · intro h; cases h
                      case os =>
                        intro Q a w2 hC hV hI
                        have e2 : a.eval (.tmp 2) = .pointer (some ⟨w.heap.size, 0, none⟩) := (hI 2 (by simp [Op.operands]) (by kernel_rfl)).trans rfl
                        have f2 : a.tmps.getD 2 undef = .pointer (some ⟨w.heap.size, 0, none⟩) := e2
                        have g2 : a.tmps[2]?.getD undef = .pointer (some ⟨w.heap.size, 0, none⟩) := by rw [← Array.getD_eq_getD_getElem?]; exact e2
                        have e108 : a.eval (.tmp 108) = .agg #[.int .i64 0, .string t0, .string t8, .int .i64 nm, .int .i64 nu, .int .i64 ng, .int .i64 nt, .string t10, .string t11, .string ⟨#[]⟩] := hV 108 (by simp [Op.operands]) (by kernel_rfl)
                        have f108 : a.tmps.getD 108 undef = .agg #[.int .i64 0, .string t0, .string t8, .int .i64 nm, .int .i64 nu, .int .i64 ng, .int .i64 nt, .string t10, .string t11, .string ⟨#[]⟩] := e108
                        have g108 : a.tmps[108]?.getD undef = .agg #[.int .i64 0, .string t0, .string t8, .int .i64 nm, .int .i64 nu, .int .i64 ng, .int .i64 nt, .string t10, .string t11, .string ⟨#[]⟩] := by rw [← Array.getD_eq_getD_getElem?]; exact e108
                        have hS : ∀ cs : Array Value, cs.size = 10 → w2.heap[w.heap.size]? = some (.cells cs 32 (0, 0)) → _ := fun cs hc hR => run_storeVar_row (P := Tryz.prog) w2 w.heap.size 32 32 cs #[.int .i64 0, .string t0, .string t8, .int .i64 nm, .int .i64 nu, .int .i64 ng, .int .i64 nt, .string t10, .string t11, .string ⟨#[]⟩] hR (by rw [Tryz.sizeEnt]; rfl) hc (by simp [Value.oneCell'])
                        have hR2 : (w2.setRow w.heap.size #[.int .i64 0, .string t0, .string t8, .int .i64 nm, .int .i64 nu, .int .i64 ng, .int .i64 nt, .string t10, .string t11, .string ⟨#[]⟩]).heap[w.heap.size]? = some (.cells #[.int .i64 0, .string t0, .string t8, .int .i64 nm, .int .i64 nu, .int .i64 ng, .int .i64 nt, .string t10, .string t11, .string ⟨#[]⟩] 32 (0, 0)) := hC.2.2.2.elim (fun h => setRow_heap _ _ _ _ _ _ h) (fun h => setRow_heap _ _ _ _ _ _ h)
                        refine opU_store (C := fun w' => Below w.heap.size w w' ∧ w'.heap[G]? = some (.cells #[.int .i64 0, .string t0, .string t8, .int .i64 nm, .int .i64 nu, .int .i64 ng, .int .i64 nt, .string t10, .string t11, .string ⟨#[]⟩] 32 (0, 0)) ∧ w'.cell? ⟨gb, 3, none⟩ = some (.int .i64 nz) ∧ (w'.heap[w.heap.size]? = some (.cells zEnt 32 (0, 0)) ∨ w'.heap[w.heap.size]? = some (.cells #[.int .i64 0, .string t0, .string t8, .int .i64 nm, .int .i64 nu, .int .i64 ng, .int .i64 nt, .string t10, .string t11, .string ⟨#[]⟩] 32 (0, 0)))) (St := fun x y => y.heap[w.heap.size]? = x.heap[w.heap.size]? ∨ y.heap[w.heap.size]? = some (.cells #[.int .i64 0, .string t0, .string t8, .int .i64 nm, .int .i64 nu, .int .i64 ng, .int .i64 nt, .string t10, .string t11, .string ⟨#[]⟩] 32 (0, 0))) (V := fun d v _ => match d with | 108 => v = .agg #[.int .i64 0, .string t0, .string t8, .int .i64 nm, .int .i64 nu, .int .i64 ng, .int .i64 nt, .string t10, .string t11, .string ⟨#[]⟩] | 109 => v = .string s | 110 => v = .string (s.extract 156 157) | 111 => v = .slice (some ⟨gb, 0, none⟩) 5 cp | 112 => v = .pointer (some ⟨gb, 3, none⟩) | 113 => v = .int .i64 nz | 3 => v = .string (s.extract 156 157) | 4 => v = .int .i64 nz | 5 => v = .int .i64 0 | _ => True) (U := fun o w' => o.dst = none → w'.heap[w.heap.size]? = some (.cells #[.int .i64 0, .string t0, .string t8, .int .i64 nm, .int .i64 nu, .int .i64 ng, .int .i64 nt, .string t10, .string t11, .string ⟨#[]⟩] 32 (0, 0))) 32 _ _ rfl rfl ⟨w.heap.size, 0, none⟩ e2 e108 (hC.2.2.2.elim (fun h => hS _ rfl h) (fun h => hS _ rfl h)) ?_ ?_ ?_
                        · exact ⟨hC.1.trans (below_set (Nat.le_refl _) _), by rw [setRow_other _ _ _ _ (by omega)]; exact hC.2.1, (cell_setRow_other (by omega)).trans hC.2.2.1, Or.inr hR2⟩
                        · exact Or.inr hR2
                        · intro _; exact hR2
                      case o3 =>
                        intro Q a w2 hC hV hI
                        have e110 : a.eval (.tmp 110) = .string (s.extract 156 157) := hV 110 (by simp [Op.operands]) (by kernel_rfl)
                        have f110 : a.tmps.getD 110 undef = .string (s.extract 156 157) := e110
                        have g110 : a.tmps[110]?.getD undef = .string (s.extract 156 157) := by rw [← Array.getD_eq_getD_getElem?]; exact e110
                        refine opU_val (C := fun w' => Below w.heap.size w w' ∧ w'.heap[G]? = some (.cells #[.int .i64 0, .string t0, .string t8, .int .i64 nm, .int .i64 nu, .int .i64 ng, .int .i64 nt, .string t10, .string t11, .string ⟨#[]⟩] 32 (0, 0)) ∧ w'.cell? ⟨gb, 3, none⟩ = some (.int .i64 nz) ∧ (w'.heap[w.heap.size]? = some (.cells zEnt 32 (0, 0)) ∨ w'.heap[w.heap.size]? = some (.cells #[.int .i64 0, .string t0, .string t8, .int .i64 nm, .int .i64 nu, .int .i64 ng, .int .i64 nt, .string t10, .string t11, .string ⟨#[]⟩] 32 (0, 0)))) (St := fun x y => y.heap[w.heap.size]? = x.heap[w.heap.size]? ∨ y.heap[w.heap.size]? = some (.cells #[.int .i64 0, .string t0, .string t8, .int .i64 nm, .int .i64 nu, .int .i64 ng, .int .i64 nt, .string t10, .string t11, .string ⟨#[]⟩] 32 (0, 0))) (V := fun d v _ => match d with | 108 => v = .agg #[.int .i64 0, .string t0, .string t8, .int .i64 nm, .int .i64 nu, .int .i64 ng, .int .i64 nt, .string t10, .string t11, .string ⟨#[]⟩] | 109 => v = .string s | 110 => v = .string (s.extract 156 157) | 111 => v = .slice (some ⟨gb, 0, none⟩) 5 cp | 112 => v = .pointer (some ⟨gb, 3, none⟩) | 113 => v = .int .i64 nz | 3 => v = .string (s.extract 156 157) | 4 => v = .int .i64 nz | 5 => v = .int .i64 0 | _ => True) (U := fun o w' => o.dst = none → w'.heap[w.heap.size]? = some (.cells #[.int .i64 0, .string t0, .string t8, .int .i64 nm, .int .i64 nu, .int .i64 ng, .int .i64 nt, .string t10, .string t11, .string ⟨#[]⟩] 32 (0, 0))) (w' := w2) (.string (s.extract 156 157)) ?_ ?_ ?_ ?_ ?_
                        · (clear hV hI hC; go_simp <;> (first | rfl | simp))
                        · exact hC
                        · exact Or.inl rfl
                        · intro d hd; cases hd; exact rfl
                        · intro h; cases h
                      case o4 =>
                        intro Q a w2 hC hV hI
                        have e113 : a.eval (.tmp 113) = .int .i64 nz := hV 113 (by simp [Op.operands]) (by kernel_rfl)
                        have f113 : a.tmps.getD 113 undef = .int .i64 nz := e113
                        have g113 : a.tmps[113]?.getD undef = .int .i64 nz := by rw [← Array.getD_eq_getD_getElem?]; exact e113
                        refine opU_val (C := fun w' => Below w.heap.size w w' ∧ w'.heap[G]? = some (.cells #[.int .i64 0, .string t0, .string t8, .int .i64 nm, .int .i64 nu, .int .i64 ng, .int .i64 nt, .string t10, .string t11, .string ⟨#[]⟩] 32 (0, 0)) ∧ w'.cell? ⟨gb, 3, none⟩ = some (.int .i64 nz) ∧ (w'.heap[w.heap.size]? = some (.cells zEnt 32 (0, 0)) ∨ w'.heap[w.heap.size]? = some (.cells #[.int .i64 0, .string t0, .string t8, .int .i64 nm, .int .i64 nu, .int .i64 ng, .int .i64 nt, .string t10, .string t11, .string ⟨#[]⟩] 32 (0, 0)))) (St := fun x y => y.heap[w.heap.size]? = x.heap[w.heap.size]? ∨ y.heap[w.heap.size]? = some (.cells #[.int .i64 0, .string t0, .string t8, .int .i64 nm, .int .i64 nu, .int .i64 ng, .int .i64 nt, .string t10, .string t11, .string ⟨#[]⟩] 32 (0, 0))) (V := fun d v _ => match d with | 108 => v = .agg #[.int .i64 0, .string t0, .string t8, .int .i64 nm, .int .i64 nu, .int .i64 ng, .int .i64 nt, .string t10, .string t11, .string ⟨#[]⟩] | 109 => v = .string s | 110 => v = .string (s.extract 156 157) | 111 => v = .slice (some ⟨gb, 0, none⟩) 5 cp | 112 => v = .pointer (some ⟨gb, 3, none⟩) | 113 => v = .int .i64 nz | 3 => v = .string (s.extract 156 157) | 4 => v = .int .i64 nz | 5 => v = .int .i64 0 | _ => True) (U := fun o w' => o.dst = none → w'.heap[w.heap.size]? = some (.cells #[.int .i64 0, .string t0, .string t8, .int .i64 nm, .int .i64 nu, .int .i64 ng, .int .i64 nt, .string t10, .string t11, .string ⟨#[]⟩] 32 (0, 0))) (w' := w2) (.int .i64 nz) ?_ ?_ ?_ ?_ ?_
                        · (clear hV hI hC; go_simp <;> (first | rfl | simp))
                        · exact hC
                        · exact Or.inl rfl
                        · intro d hd; cases hd; exact rfl
                        · intro h; cases h
                      case o5 =>
                        intro Q a w2 hC hV hI
                        refine opU_val (C := fun w' => Below w.heap.size w w' ∧ w'.heap[G]? = some (.cells #[.int .i64 0, .string t0, .string t8, .int .i64 nm, .int .i64 nu, .int .i64 ng, .int .i64 nt, .string t10, .string t11, .string ⟨#[]⟩] 32 (0, 0)) ∧ w'.cell? ⟨gb, 3, none⟩ = some (.int .i64 nz) ∧ (w'.heap[w.heap.size]? = some (.cells zEnt 32 (0, 0)) ∨ w'.heap[w.heap.size]? = some (.cells #[.int .i64 0, .string t0, .string t8, .int .i64 nm, .int .i64 nu, .int .i64 ng, .int .i64 nt, .string t10, .string t11, .string ⟨#[]⟩] 32 (0, 0)))) (St := fun x y => y.heap[w.heap.size]? = x.heap[w.heap.size]? ∨ y.heap[w.heap.size]? = some (.cells #[.int .i64 0, .string t0, .string t8, .int .i64 nm, .int .i64 nu, .int .i64 ng, .int .i64 nt, .string t10, .string t11, .string ⟨#[]⟩] 32 (0, 0))) (V := fun d v _ => match d with | 108 => v = .agg #[.int .i64 0, .string t0, .string t8, .int .i64 nm, .int .i64 nu, .int .i64 ng, .int .i64 nt, .string t10, .string t11, .string ⟨#[]⟩] | 109 => v = .string s | 110 => v = .string (s.extract 156 157) | 111 => v = .slice (some ⟨gb, 0, none⟩) 5 cp | 112 => v = .pointer (some ⟨gb, 3, none⟩) | 113 => v = .int .i64 nz | 3 => v = .string (s.extract 156 157) | 4 => v = .int .i64 nz | 5 => v = .int .i64 0 | _ => True) (U := fun o w' => o.dst = none → w'.heap[w.heap.size]? = some (.cells #[.int .i64 0, .string t0, .string t8, .int .i64 nm, .int .i64 nu, .int .i64 ng, .int .i64 nt, .string t10, .string t11, .string ⟨#[]⟩] 32 (0, 0))) (w' := w2) (.int .i64 0) ?_ ?_ ?_ ?_ ?_
                        · (clear hV hI hC; go_simp <;> (first | rfl | simp))
                        · exact hC
                        · exact Or.inl rfl
                        · intro d hd; cases hd; exact rfl
                        · intro h; cases h
                    case hend =>
                      intro f w7 hC hall huall
                      simp only [List.forall_mem_cons] at hall
                      obtain ⟨h108, h109, h110, h111, h112, h113, _, h3, h4, h5, _⟩ := hall
                      simp only [List.forall_mem_cons] at huall
                      obtain ⟨_, _, _, _, _, _, hus, _, _, _, _⟩ := huall
                      replace h108 : f 108 = .agg #[.int .i64 0, .string t0, .string t8, .int .i64 nm, .int .i64 nu, .int .i64 ng, .int .i64 nt, .string t10, .string t11, .string ⟨#[]⟩] := h108 108 rfl
                      replace h109 : f 109 = .string s := h109 109 rfl
                      replace h110 : f 110 = .string (s.extract 156 157) := h110 110 rfl
                      replace h111 : f 111 = .slice (some ⟨gb, 0, none⟩) 5 cp := h111 111 rfl
                      replace h112 : f 112 = .pointer (some ⟨gb, 3, none⟩) := h112 112 rfl
                      replace h113 : f 113 = .int .i64 nz := h113 113 rfl
                      replace h3 : f 3 = .string (s.extract 156 157) := h3 3 rfl
                      replace h4 : f 4 = .int .i64 nz := h4 4 rfl
                      replace h5 : f 5 = .int .i64 0 := h5 5 rfl
                      simp only [putAll, Act.put, List.setIfInBounds_toArray, List.set_cons_succ, List.set_cons_zero, h108, h109, h110, h111, h112, h113, h3, h4, h5]
                      clear h108 h109 h110 h111 h112 h113 h3 h4 h5
                      have R5 := Lib.hid (hus trivial)
                      have B5 := Lib.hid hC.1
                      clear hC hus
                      go_wp2
                      refine bodyPost_ret (results_cell4 rfl _ _ w.heap.size _ #[.int .i64 0, .string t0, .string t8, .int .i64 nm, .int .i64 nu, .int .i64 ng, .int .i64 nt, .string t10, .string t11, .string ⟨#[]⟩] (0, 0) _ rfl R5.out Tryz.underlying32 rfl (by rw [Tryz.sizeEnt]; rfl)) rfl ?_
                      rw [HE.out]
                      exact ⟨rfl, B5.out⟩
                · have HP2 := HP.out.trans (if_neg hq)
                  have hq1 := empty_f hq
                  have HP3 := Lib.hid HP2
                  clear HP HP2 C0 C14 hq
                  go_wp2_with fail
                  rw [← HP3.out]
                  refine wp_region_cut 24 (by kernel_rfl) (fun w' => Below wr.heap.size wr w') (fun x y => Below x.heap.size x y) (vBox wr.heap.size (fun d v => match d with | 85 => v = .string pth | 86 => v = .string s | 87 => v = .string (s.extract 157 257) | 88 => v = .string t8 | 89 => v = .slice (some ⟨gb, 0, none⟩) 5 cp | 90 => v = .pointer (some ⟨gb, 0, none⟩) | 91 => v = .int .i64 nm | 92 => v = .slice (some ⟨gb, 0, none⟩) 5 cp | 93 => v = .pointer (some ⟨gb, 1, none⟩) | 94 => v = .int .i64 nu | 95 => v = .slice (some ⟨gb, 0, none⟩) 5 cp | 96 => v = .pointer (some ⟨gb, 2, none⟩) | 97 => v = .int .i64 ng | 98 => v = .slice (some ⟨gb, 0, none⟩) 5 cp | 99 => v = .pointer (some ⟨gb, 4, none⟩) | 100 => v = .int .i64 nt | 101 => v = .string s | 102 => v = .string (s.extract 265 297) | 103 => v = .string t10 | 104 => v = .string s | 105 => v = .string (s.extract 297 329) | 106 => v = .string t11 | 107 => v = .agg #[.int .i64 0, .string pth, .string t8, .int .i64 nm, .int .i64 nu, .int .i64 ng, .int .i64 nt, .string t10, .string t11, .string ⟨#[]⟩] | _ => True)) (by kernel_rfl) (by kernel_rfl) ((Below.refl _ _).drew) (vBox_keep _ _) (by simp) ?hops ?hend
                  case hops =>
                    simp only [List.take_succ_cons, List.take_zero, List.forall_mem_cons]
                    refine ⟨?o85, ?o86, ?o87, ?o88, ?o89, ?o90, ?o91, ?o92, ?o93, ?o94, ?o95, ?o96, ?o97, ?o98, ?o99, ?o100, ?o101, ?o102, ?o103, ?o104, ?o105, ?o106, ?o107, ?o15, fun _ h => by cases h⟩
                    case o85 =>
                      intro Q a w2 hC hV hI
                      have e13 : a.eval (.tmp 13) = .string pth := (hI 13 (by simp [Op.operands]) (by kernel_rfl)).trans rfl
                      have f13 : a.tmps.getD 13 undef = .string pth := e13
                      have g13 : a.tmps[13]?.getD undef = .string pth := by rw [← Array.getD_eq_getD_getElem?]; exact e13
                      refine op_val (.string pth) ?_ hC (Below.refl _ _) (by intro d hd; cases hd; exact rfl)
                      (clear hV hI hC; go_simp <;> (first | rfl | simp))
                    case o86 =>
                      intro Q a w2 hC hV hI
                      have e0 : a.eval (.tmp 0) = .string s := (hI 0 (by simp [Op.operands]) (by kernel_rfl)).trans rfl
                      have f0 : a.tmps.getD 0 undef = .string s := e0
                      have g0 : a.tmps[0]?.getD undef = .string s := by rw [← Array.getD_eq_getD_getElem?]; exact e0
                      refine op_val (.string s) ?_ hC (Below.refl _ _) (by intro d hd; cases hd; exact rfl)
                      (clear hV hI hC; go_simp <;> (first | rfl | simp))
                    case o87 =>
                      intro Q a w2 hC hV hI
                      have e86 : a.eval (.tmp 86) = .string s := hV 86 (by simp [Op.operands]) (by kernel_rfl)
                      have f86 : a.tmps.getD 86 undef = .string s := e86
                      have g86 : a.tmps[86]?.getD undef = .string s := by rw [← Array.getD_eq_getD_getElem?]; exact e86
                      refine op_val (.string (s.extract 157 257)) ?_ hC (Below.refl _ _) (by intro d hd; cases hd; exact rfl)
                      (clear hV hI hC; go_simp <;> (first | rfl | simp))
                    case o88 =>
                      intro Q a w2 hC hV hI
                      have e87 : a.eval (.tmp 87) = .string (s.extract 157 257) := hV 87 (by simp [Op.operands, Call.operands]) (by kernel_rfl)
                      have f87 : a.tmps.getD 87 undef = .string (s.extract 157 257) := e87
                      have g87 : a.tmps[87]?.getD undef = .string (s.extract 157 257) := by rw [← Array.getD_eq_getD_getElem?]; exact e87
                      refine op_call (f := 65) (args := #[.string (s.extract 157 257)]) (R := fun v y => v = .string t8 ∧ w2 = y) ?_ ((C8.out w2).mono ?_) ?_
                      · (clear hV hI hC; go_simp <;> (first | rfl | simp))
                      · rintro e y ⟨rfl, rfl⟩; exact ⟨_, rfl, rfl, rfl⟩
                      · rintro v y ⟨rfl, rfl⟩; exact ⟨hC, Below.refl _ _, by intro d hd; cases hd; exact rfl⟩
                    case o89 =>
                      intro Q a w2 hC hV hI
                      have e8 : a.eval (.tmp 8) = .slice (some ⟨gb, 0, none⟩) 5 cp := (hI 8 (by simp [Op.operands]) (by kernel_rfl)).trans rfl
                      have f8 : a.tmps.getD 8 undef = .slice (some ⟨gb, 0, none⟩) 5 cp := e8
                      have g8 : a.tmps[8]?.getD undef = .slice (some ⟨gb, 0, none⟩) 5 cp := by rw [← Array.getD_eq_getD_getElem?]; exact e8
                      refine op_val (.slice (some ⟨gb, 0, none⟩) 5 cp) ?_ hC (Below.refl _ _) (by intro d hd; cases hd; exact rfl)
                      (clear hV hI hC; go_simp <;> (first | rfl | simp))
                    case o90 =>
                      intro Q a w2 hC hV hI
                      have e89 : a.eval (.tmp 89) = .slice (some ⟨gb, 0, none⟩) 5 cp := hV 89 (by simp [Op.operands]) (by kernel_rfl)
                      have f89 : a.tmps.getD 89 undef = .slice (some ⟨gb, 0, none⟩) 5 cp := e89
                      have g89 : a.tmps[89]?.getD undef = .slice (some ⟨gb, 0, none⟩) 5 cp := by rw [← Array.getD_eq_getD_getElem?]; exact e89
                      refine op_val (.pointer (some ⟨gb, 0, none⟩)) ?_ hC (Below.refl _ _) (by intro d hd; cases hd; exact rfl)
                      (clear hV hI hC; go_simp <;> (first | rfl | simp))
                    case o91 =>
                      intro Q a w2 hC hV hI
                      have e90 : a.eval (.tmp 90) = .pointer (some ⟨gb, 0, none⟩) := hV 90 (by simp [Op.operands]) (by kernel_rfl)
                      have f90 : a.tmps.getD 90 undef = .pointer (some ⟨gb, 0, none⟩) := e90
                      have g90 : a.tmps[90]?.getD undef = .pointer (some ⟨gb, 0, none⟩) := by rw [← Array.getD_eq_getD_getElem?]; exact e90
                      have hK := KC.out w2 hC
                      refine op_val (.int .i64 nm) ?_ hC (Below.refl _ _) (by intro d hd; cases hd; exact rfl)
                      (clear hV hI hC; go_simp <;> (first | rfl | simp))
                    case o92 =>
                      intro Q a w2 hC hV hI
                      have e8 : a.eval (.tmp 8) = .slice (some ⟨gb, 0, none⟩) 5 cp := (hI 8 (by simp [Op.operands]) (by kernel_rfl)).trans rfl
                      have f8 : a.tmps.getD 8 undef = .slice (some ⟨gb, 0, none⟩) 5 cp := e8
                      have g8 : a.tmps[8]?.getD undef = .slice (some ⟨gb, 0, none⟩) 5 cp := by rw [← Array.getD_eq_getD_getElem?]; exact e8
                      refine op_val (.slice (some ⟨gb, 0, none⟩) 5 cp) ?_ hC (Below.refl _ _) (by intro d hd; cases hd; exact rfl)
                      (clear hV hI hC; go_simp <;> (first | rfl | simp))
                    case o93 =>
                      intro Q a w2 hC hV hI
                      have e92 : a.eval (.tmp 92) = .slice (some ⟨gb, 0, none⟩) 5 cp := hV 92 (by simp [Op.operands]) (by kernel_rfl)
                      have f92 : a.tmps.getD 92 undef = .slice (some ⟨gb, 0, none⟩) 5 cp := e92
                      have g92 : a.tmps[92]?.getD undef = .slice (some ⟨gb, 0, none⟩) 5 cp := by rw [← Array.getD_eq_getD_getElem?]; exact e92
                      refine op_val (.pointer (some ⟨gb, 1, none⟩)) ?_ hC (Below.refl _ _) (by intro d hd; cases hd; exact rfl)
                      (clear hV hI hC; go_simp <;> (first | rfl | simp))
                    case o94 =>
                      intro Q a w2 hC hV hI
                      have e93 : a.eval (.tmp 93) = .pointer (some ⟨gb, 1, none⟩) := hV 93 (by simp [Op.operands]) (by kernel_rfl)
                      have f93 : a.tmps.getD 93 undef = .pointer (some ⟨gb, 1, none⟩) := e93
                      have g93 : a.tmps[93]?.getD undef = .pointer (some ⟨gb, 1, none⟩) := by rw [← Array.getD_eq_getD_getElem?]; exact e93
                      have hK := KC.out w2 hC
                      refine op_val (.int .i64 nu) ?_ hC (Below.refl _ _) (by intro d hd; cases hd; exact rfl)
                      (clear hV hI hC; go_simp <;> (first | rfl | simp))
                    case o95 =>
                      intro Q a w2 hC hV hI
                      have e8 : a.eval (.tmp 8) = .slice (some ⟨gb, 0, none⟩) 5 cp := (hI 8 (by simp [Op.operands]) (by kernel_rfl)).trans rfl
                      have f8 : a.tmps.getD 8 undef = .slice (some ⟨gb, 0, none⟩) 5 cp := e8
                      have g8 : a.tmps[8]?.getD undef = .slice (some ⟨gb, 0, none⟩) 5 cp := by rw [← Array.getD_eq_getD_getElem?]; exact e8
                      refine op_val (.slice (some ⟨gb, 0, none⟩) 5 cp) ?_ hC (Below.refl _ _) (by intro d hd; cases hd; exact rfl)
                      (clear hV hI hC; go_simp <;> (first | rfl | simp))
                    case o96 =>
                      intro Q a w2 hC hV hI
                      have e95 : a.eval (.tmp 95) = .slice (some ⟨gb, 0, none⟩) 5 cp := hV 95 (by simp [Op.operands]) (by kernel_rfl)
                      have f95 : a.tmps.getD 95 undef = .slice (some ⟨gb, 0, none⟩) 5 cp := e95
                      have g95 : a.tmps[95]?.getD undef = .slice (some ⟨gb, 0, none⟩) 5 cp := by rw [← Array.getD_eq_getD_getElem?]; exact e95
                      refine op_val (.pointer (some ⟨gb, 2, none⟩)) ?_ hC (Below.refl _ _) (by intro d hd; cases hd; exact rfl)
                      (clear hV hI hC; go_simp <;> (first | rfl | simp))
                    case o97 =>
                      intro Q a w2 hC hV hI
                      have e96 : a.eval (.tmp 96) = .pointer (some ⟨gb, 2, none⟩) := hV 96 (by simp [Op.operands]) (by kernel_rfl)
                      have f96 : a.tmps.getD 96 undef = .pointer (some ⟨gb, 2, none⟩) := e96
                      have g96 : a.tmps[96]?.getD undef = .pointer (some ⟨gb, 2, none⟩) := by rw [← Array.getD_eq_getD_getElem?]; exact e96
                      have hK := KC.out w2 hC
                      refine op_val (.int .i64 ng) ?_ hC (Below.refl _ _) (by intro d hd; cases hd; exact rfl)
                      (clear hV hI hC; go_simp <;> (first | rfl | simp))
                    case o98 =>
                      intro Q a w2 hC hV hI
                      have e8 : a.eval (.tmp 8) = .slice (some ⟨gb, 0, none⟩) 5 cp := (hI 8 (by simp [Op.operands]) (by kernel_rfl)).trans rfl
                      have f8 : a.tmps.getD 8 undef = .slice (some ⟨gb, 0, none⟩) 5 cp := e8
                      have g8 : a.tmps[8]?.getD undef = .slice (some ⟨gb, 0, none⟩) 5 cp := by rw [← Array.getD_eq_getD_getElem?]; exact e8
                      refine op_val (.slice (some ⟨gb, 0, none⟩) 5 cp) ?_ hC (Below.refl _ _) (by intro d hd; cases hd; exact rfl)
                      (clear hV hI hC; go_simp <;> (first | rfl | simp))
                    case o99 =>
                      intro Q a w2 hC hV hI
                      have e98 : a.eval (.tmp 98) = .slice (some ⟨gb, 0, none⟩) 5 cp := hV 98 (by simp [Op.operands]) (by kernel_rfl)
                      have f98 : a.tmps.getD 98 undef = .slice (some ⟨gb, 0, none⟩) 5 cp := e98
                      have g98 : a.tmps[98]?.getD undef = .slice (some ⟨gb, 0, none⟩) 5 cp := by rw [← Array.getD_eq_getD_getElem?]; exact e98
                      refine op_val (.pointer (some ⟨gb, 4, none⟩)) ?_ hC (Below.refl _ _) (by intro d hd; cases hd; exact rfl)
                      (clear hV hI hC; go_simp <;> (first | rfl | simp))
                    case o100 =>
                      intro Q a w2 hC hV hI
                      have e99 : a.eval (.tmp 99) = .pointer (some ⟨gb, 4, none⟩) := hV 99 (by simp [Op.operands]) (by kernel_rfl)
                      have f99 : a.tmps.getD 99 undef = .pointer (some ⟨gb, 4, none⟩) := e99
                      have g99 : a.tmps[99]?.getD undef = .pointer (some ⟨gb, 4, none⟩) := by rw [← Array.getD_eq_getD_getElem?]; exact e99
                      have hK := KC.out w2 hC
                      refine op_val (.int .i64 nt) ?_ hC (Below.refl _ _) (by intro d hd; cases hd; exact rfl)
                      (clear hV hI hC; go_simp <;> (first | rfl | simp))
                    case o101 =>
                      intro Q a w2 hC hV hI
                      have e0 : a.eval (.tmp 0) = .string s := (hI 0 (by simp [Op.operands]) (by kernel_rfl)).trans rfl
                      have f0 : a.tmps.getD 0 undef = .string s := e0
                      have g0 : a.tmps[0]?.getD undef = .string s := by rw [← Array.getD_eq_getD_getElem?]; exact e0
                      refine op_val (.string s) ?_ hC (Below.refl _ _) (by intro d hd; cases hd; exact rfl)
                      (clear hV hI hC; go_simp <;> (first | rfl | simp))
                    case o102 =>
                      intro Q a w2 hC hV hI
                      have e101 : a.eval (.tmp 101) = .string s := hV 101 (by simp [Op.operands]) (by kernel_rfl)
                      have f101 : a.tmps.getD 101 undef = .string s := e101
                      have g101 : a.tmps[101]?.getD undef = .string s := by rw [← Array.getD_eq_getD_getElem?]; exact e101
                      refine op_val (.string (s.extract 265 297)) ?_ hC (Below.refl _ _) (by intro d hd; cases hd; exact rfl)
                      (clear hV hI hC; go_simp <;> (first | rfl | simp))
                    case o103 =>
                      intro Q a w2 hC hV hI
                      have e102 : a.eval (.tmp 102) = .string (s.extract 265 297) := hV 102 (by simp [Op.operands, Call.operands]) (by kernel_rfl)
                      have f102 : a.tmps.getD 102 undef = .string (s.extract 265 297) := e102
                      have g102 : a.tmps[102]?.getD undef = .string (s.extract 265 297) := by rw [← Array.getD_eq_getD_getElem?]; exact e102
                      refine op_call (f := 65) (args := #[.string (s.extract 265 297)]) (R := fun v y => v = .string t10 ∧ w2 = y) ?_ ((C10.out w2).mono ?_) ?_
                      · (clear hV hI hC; go_simp <;> (first | rfl | simp))
                      · rintro e y ⟨rfl, rfl⟩; exact ⟨_, rfl, rfl, rfl⟩
                      · rintro v y ⟨rfl, rfl⟩; exact ⟨hC, Below.refl _ _, by intro d hd; cases hd; exact rfl⟩
                    case o104 =>
                      intro Q a w2 hC hV hI
                      have e0 : a.eval (.tmp 0) = .string s := (hI 0 (by simp [Op.operands]) (by kernel_rfl)).trans rfl
                      have f0 : a.tmps.getD 0 undef = .string s := e0
                      have g0 : a.tmps[0]?.getD undef = .string s := by rw [← Array.getD_eq_getD_getElem?]; exact e0
                      refine op_val (.string s) ?_ hC (Below.refl _ _) (by intro d hd; cases hd; exact rfl)
                      (clear hV hI hC; go_simp <;> (first | rfl | simp))
                    case o105 =>
                      intro Q a w2 hC hV hI
                      have e104 : a.eval (.tmp 104) = .string s := hV 104 (by simp [Op.operands]) (by kernel_rfl)
                      have f104 : a.tmps.getD 104 undef = .string s := e104
                      have g104 : a.tmps[104]?.getD undef = .string s := by rw [← Array.getD_eq_getD_getElem?]; exact e104
                      refine op_val (.string (s.extract 297 329)) ?_ hC (Below.refl _ _) (by intro d hd; cases hd; exact rfl)
                      (clear hV hI hC; go_simp <;> (first | rfl | simp))
                    case o106 =>
                      intro Q a w2 hC hV hI
                      have e105 : a.eval (.tmp 105) = .string (s.extract 297 329) := hV 105 (by simp [Op.operands, Call.operands]) (by kernel_rfl)
                      have f105 : a.tmps.getD 105 undef = .string (s.extract 297 329) := e105
                      have g105 : a.tmps[105]?.getD undef = .string (s.extract 297 329) := by rw [← Array.getD_eq_getD_getElem?]; exact e105
                      refine op_call (f := 65) (args := #[.string (s.extract 297 329)]) (R := fun v y => v = .string t11 ∧ w2 = y) ?_ ((C11.out w2).mono ?_) ?_
                      · (clear hV hI hC; go_simp <;> (first | rfl | simp))
                      · rintro e y ⟨rfl, rfl⟩; exact ⟨_, rfl, rfl, rfl⟩
                      · rintro v y ⟨rfl, rfl⟩; exact ⟨hC, Below.refl _ _, by intro d hd; cases hd; exact rfl⟩
                    case o107 =>
                      intro Q a w2 hC hV hI
                      have e85 : a.eval (.tmp 85) = .string pth := hV 85 (by simp [Op.operands]) (by kernel_rfl)
                      have f85 : a.tmps.getD 85 undef = .string pth := e85
                      have g85 : a.tmps[85]?.getD undef = .string pth := by rw [← Array.getD_eq_getD_getElem?]; exact e85
                      have e88 : a.eval (.tmp 88) = .string t8 := hV 88 (by simp [Op.operands]) (by kernel_rfl)
                      have f88 : a.tmps.getD 88 undef = .string t8 := e88
                      have g88 : a.tmps[88]?.getD undef = .string t8 := by rw [← Array.getD_eq_getD_getElem?]; exact e88
                      have e91 : a.eval (.tmp 91) = .int .i64 nm := hV 91 (by simp [Op.operands]) (by kernel_rfl)
                      have f91 : a.tmps.getD 91 undef = .int .i64 nm := e91
                      have g91 : a.tmps[91]?.getD undef = .int .i64 nm := by rw [← Array.getD_eq_getD_getElem?]; exact e91
                      have e94 : a.eval (.tmp 94) = .int .i64 nu := hV 94 (by simp [Op.operands]) (by kernel_rfl)
                      have f94 : a.tmps.getD 94 undef = .int .i64 nu := e94
                      have g94 : a.tmps[94]?.getD undef = .int .i64 nu := by rw [← Array.getD_eq_getD_getElem?]; exact e94
                      have e97 : a.eval (.tmp 97) = .int .i64 ng := hV 97 (by simp [Op.operands]) (by kernel_rfl)
                      have f97 : a.tmps.getD 97 undef = .int .i64 ng := e97
                      have g97 : a.tmps[97]?.getD undef = .int .i64 ng := by rw [← Array.getD_eq_getD_getElem?]; exact e97
                      have e100 : a.eval (.tmp 100) = .int .i64 nt := hV 100 (by simp [Op.operands]) (by kernel_rfl)
                      have f100 : a.tmps.getD 100 undef = .int .i64 nt := e100
                      have g100 : a.tmps[100]?.getD undef = .int .i64 nt := by rw [← Array.getD_eq_getD_getElem?]; exact e100
                      have e103 : a.eval (.tmp 103) = .string t10 := hV 103 (by simp [Op.operands]) (by kernel_rfl)
                      have f103 : a.tmps.getD 103 undef = .string t10 := e103
                      have g103 : a.tmps[103]?.getD undef = .string t10 := by rw [← Array.getD_eq_getD_getElem?]; exact e103
                      have e106 : a.eval (.tmp 106) = .string t11 := hV 106 (by simp [Op.operands]) (by kernel_rfl)
                      have f106 : a.tmps.getD 106 undef = .string t11 := e106
                      have g106 : a.tmps[106]?.getD undef = .string t11 := by rw [← Array.getD_eq_getD_getElem?]; exact e106
                      refine op_val (.agg #[.int .i64 0, .string pth, .string t8, .int .i64 nm, .int .i64 nu, .int .i64 ng, .int .i64 nt, .string t10, .string t11, .string ⟨#[]⟩]) ?_ hC (Below.refl _ _) (by intro d hd; cases hd; exact rfl)
                      (clear hV hI hC; go_simp <;> (first | rfl | simp))
                    case o15 =>
                      intro Q a w2 hC hV hI
                      refine op_val (.pointer (some ⟨w2.heap.size, 0, none⟩)) (w' := w2.alloc (.cells zEnt 32)) ?_ (hC.alloc hC.size _) ((Below.refl _ _).alloc (Nat.le_refl _) _) ?_
                      · (clear hV hI hC; go_simp <;> (first | rfl | simp))
                      · intro d hd; cases hd; exact ⟨w2.heap.size, rfl, hC.size, heap_alloc_last _ _⟩
                  case hend =>
                    intro f w5 hC hall
                    simp only [List.take_succ_cons, List.take_zero, List.drop_succ_cons, List.drop_zero] at hall ⊢
                    simp only [List.forall_mem_cons] at hall
                    obtain ⟨h85, h86, h87, h88, h89, h90, h91, h92, h93, h94, h95, h96, h97, h98, h99, h100, h101, h102, h103, h104, h105, h106, h107, h15, _⟩ := hall
                    replace h85 : f 85 = .string pth := h85 85 rfl
                    replace h86 : f 86 = .string s := h86 86 rfl
                    replace h87 : f 87 = .string (s.extract 157 257) := h87 87 rfl
                    replace h88 : f 88 = .string t8 := h88 88 rfl
                    replace h89 : f 89 = .slice (some ⟨gb, 0, none⟩) 5 cp := h89 89 rfl
                    replace h90 : f 90 = .pointer (some ⟨gb, 0, none⟩) := h90 90 rfl
                    replace h91 : f 91 = .int .i64 nm := h91 91 rfl
                    replace h92 : f 92 = .slice (some ⟨gb, 0, none⟩) 5 cp := h92 92 rfl
                    replace h93 : f 93 = .pointer (some ⟨gb, 1, none⟩) := h93 93 rfl
                    replace h94 : f 94 = .int .i64 nu := h94 94 rfl
                    replace h95 : f 95 = .slice (some ⟨gb, 0, none⟩) 5 cp := h95 95 rfl
                    replace h96 : f 96 = .pointer (some ⟨gb, 2, none⟩) := h96 96 rfl
                    replace h97 : f 97 = .int .i64 ng := h97 97 rfl
                    replace h98 : f 98 = .slice (some ⟨gb, 0, none⟩) 5 cp := h98 98 rfl
                    replace h99 : f 99 = .pointer (some ⟨gb, 4, none⟩) := h99 99 rfl
                    replace h100 : f 100 = .int .i64 nt := h100 100 rfl
                    replace h101 : f 101 = .string s := h101 101 rfl
                    replace h102 : f 102 = .string (s.extract 265 297) := h102 102 rfl
                    replace h103 : f 103 = .string t10 := h103 103 rfl
                    replace h104 : f 104 = .string s := h104 104 rfl
                    replace h105 : f 105 = .string (s.extract 297 329) := h105 105 rfl
                    replace h106 : f 106 = .string t11 := h106 106 rfl
                    replace h107 : f 107 = .agg #[.int .i64 0, .string pth, .string t8, .int .i64 nm, .int .i64 nu, .int .i64 ng, .int .i64 nt, .string t10, .string t11, .string ⟨#[]⟩] := h107 107 rfl
                    obtain ⟨G, hG15, hGB, hGO⟩ : ∃ G, f 15 = .pointer (some ⟨G, 0, none⟩) ∧ wr.heap.size ≤ G ∧ w5.heap[G]? = some (.cells zEnt 32 (0, 0)) := h15 15 rfl
                    simp only [putAll, Act.put, List.setIfInBounds_toArray, List.set_cons_succ, List.set_cons_zero, h85, h86, h87, h88, h89, h90, h91, h92, h93, h94, h95, h96, h97, h98, h99, h100, h101, h102, h103, h104, h105, h106, h107, hG15]
                    clear h85 h86 h87 h88 h89 h90 h91 h92 h93 h94 h95 h96 h97 h98 h99 h100 h101 h102 h103 h104 h105 h106 h107 hG15
                    have HS1 := Lib.hid (run_storeVar_row (P := Tryz.prog) w5 G 32 32 zEnt #[.int .i64 0, .string pth, .string t8, .int .i64 nm, .int .i64 nu, .int .i64 ng, .int .i64 nt, .string t10, .string t11, .string ⟨#[]⟩] hGO (by rw [Tryz.sizeEnt]; rfl) rfl (by simp [Value.oneCell']))
                    have OG := setRow_heap _ _ _ #[.int .i64 0, .string pth, .string t8, .int .i64 nm, .int .i64 nu, .int .i64 ng, .int .i64 nt, .string t10, .string t11, .string ⟨#[]⟩] _ _ hGO
                    have BG := hC.trans (below_set (w := w5) hGB #[.int .i64 0, .string pth, .string t8, .int .i64 nm, .int .i64 nu, .int .i64 ng, .int .i64 nt, .string t10, .string t11, .string ⟨#[]⟩])
                    go_wp2_with ((with_reducible refine wpList_store_eq rfl 32 _ _ rfl ⟨G, 0, none⟩ ?_ ?_ HS1.out ?_); rfl; rfl)
                    clear HS1 hGO hC
                    generalize w5.setRow G #[.int .i64 0, .string pth, .string t8, .int .i64 nm, .int .i64 nu, .int .i64 ng, .int .i64 nt, .string t10, .string t11, .string ⟨#[]⟩] = w6 at *
                    have zG := obj_lt OG
                    have HLG : Hid (∀ w' : World, w'.heap[G]? = some (.cells #[.int .i64 0, .string pth, .string t8, .int .i64 nm, .int .i64 nu, .int .i64 ng, .int .i64 nt, .string t10, .string t11, .string ⟨#[]⟩] 32 (0, 0)) → w'.cell? ⟨G, 0, none⟩ = some (.int .i64 0) ∧ w'.cell? ⟨G, 1, none⟩ = some (.string pth) ∧ w'.cell? ⟨G, 2, none⟩ = some (.string t8) ∧ w'.cell? ⟨G, 3, none⟩ = some (.int .i64 nm) ∧ w'.cell? ⟨G, 4, none⟩ = some (.int .i64 nu) ∧ w'.cell? ⟨G, 5, none⟩ = some (.int .i64 ng) ∧ w'.cell? ⟨G, 6, none⟩ = some (.int .i64 nt) ∧ w'.cell? ⟨G, 7, none⟩ = some (.string t10) ∧ w'.cell? ⟨G, 8, none⟩ = some (.string t11) ∧ w'.cell? ⟨G, 9, none⟩ = some (.string ⟨#[]⟩)) := Lib.hid (fun w' h1 => by refine ⟨?_, ?_, ?_, ?_, ?_, ?_, ?_, ?_, ?_, ?_⟩ <;> (rw [cell_of_row _ _ _ _ _ _ h1]; rfl))
                    have N3 := Lib.hid (KC.out w6 BG).2.2.2.1
                    have RO6 := Lib.hid ((BG.block _ (obj_lt RO3.out)).trans RO3.out)
                    have B6 := Lib.hid (B3.out.trans (BG.mono B3.out.size))
                    have zRG : w.heap.size < G := Nat.lt_of_lt_of_le (obj_lt RO3.out) hGB
                    have OG6 := Lib.hid OG
                    clear BG OG KC
                    refine wp_region_u (by kernel_rfl) (fun w' => Below w.heap.size w w' ∧ w'.heap[G]? = some (.cells #[.int .i64 0, .string pth, .string t8, .int .i64 nm, .int .i64 nu, .int .i64 ng, .int .i64 nt, .string t10, .string t11, .string ⟨#[]⟩] 32 (0, 0)) ∧ w'.cell? ⟨gb, 3, none⟩ = some (.int .i64 nz) ∧ (w'.heap[w.heap.size]? = some (.cells zEnt 32 (0, 0)) ∨ w'.heap[w.heap.size]? = some (.cells #[.int .i64 0, .string pth, .string t8, .int .i64 nm, .int .i64 nu, .int .i64 ng, .int .i64 nt, .string t10, .string t11, .string ⟨#[]⟩] 32 (0, 0)))) (fun x y => y.heap[w.heap.size]? = x.heap[w.heap.size]? ∨ y.heap[w.heap.size]? = some (.cells #[.int .i64 0, .string pth, .string t8, .int .i64 nm, .int .i64 nu, .int .i64 ng, .int .i64 nt, .string t10, .string t11, .string ⟨#[]⟩] 32 (0, 0))) (fun d v _ => match d with | 108 => v = .agg #[.int .i64 0, .string pth, .string t8, .int .i64 nm, .int .i64 nu, .int .i64 ng, .int .i64 nt, .string t10, .string t11, .string ⟨#[]⟩] | 109 => v = .string s | 110 => v = .string (s.extract 156 157) | 111 => v = .slice (some ⟨gb, 0, none⟩) 5 cp | 112 => v = .pointer (some ⟨gb, 3, none⟩) | 113 => v = .int .i64 nz | 3 => v = .string (s.extract 156 157) | 4 => v = .int .i64 nz | 5 => v = .int .i64 0 | _ => True) (fun o w' => o.dst = none → w'.heap[w.heap.size]? = some (.cells #[.int .i64 0, .string pth, .string t8, .int .i64 nm, .int .i64 nu, .int .i64 ng, .int .i64 nt, .string t10, .string t11, .string ⟨#[]⟩] 32 (0, 0))) (by kernel_rfl) ⟨B6.out.drew, OG6.out, N3.out, .inl RO6.out⟩ (fun _ _ _ _ _ _ h => h) (fun _ _ _ _ hs hu hd => Or.elim hs (fun h => h.trans (hu hd)) (fun h => h)) ?hops ?hend
                    case hops =>
                      simp only [List.forall_mem_cons]
                      refine ⟨?o108, ?o109, ?o110, ?o111, ?o112, ?o113, ?os, ?o3, ?o4, ?o5, fun _ h => by cases h⟩
                      case o108 =>
                        intro Q a w2 hC hV hI
                        have e15 : a.eval (.tmp 15) = .pointer (some ⟨G, 0, none⟩) := (hI 15 (by simp [Op.operands]) (by kernel_rfl)).trans rfl
                        have f15 : a.tmps.getD 15 undef = .pointer (some ⟨G, 0, none⟩) := e15
                        have g15 : a.tmps[15]?.getD undef = .pointer (some ⟨G, 0, none⟩) := by rw [← Array.getD_eq_getD_getElem?]; exact e15
                        have hK := HLG.out w2 hC.2.1
                        refine opU_val (C := fun w' => Below w.heap.size w w' ∧ w'.heap[G]? = some (.cells #[.int .i64 0, .string pth, .string t8, .int .i64 nm, .int .i64 nu, .int .i64 ng, .int .i64 nt, .string t10, .string t11, .string ⟨#[]⟩] 32 (0, 0)) ∧ w'.cell? ⟨gb, 3, none⟩ = some (.int .i64 nz) ∧ (w'.heap[w.heap.size]? = some (.cells zEnt 32 (0, 0)) ∨ w'.heap[w.heap.size]? = some (.cells #[.int .i64 0, .string pth, .string t8, .int .i64 nm, .int .i64 nu, .int .i64 ng, .int .i64 nt, .string t10, .string t11, .string ⟨#[]⟩] 32 (0, 0)))) (St := fun x y => y.heap[w.heap.size]? = x.heap[w.heap.size]? ∨ y.heap[w.heap.size]? = some (.cells #[.int .i64 0, .string pth, .string t8, .int .i64 nm, .int .i64 nu, .int .i64 ng, .int .i64 nt, .string t10, .string t11, .string ⟨#[]⟩] 32 (0, 0))) (V := fun d v _ => match d with | 108 => v = .agg #[.int .i64 0, .string pth, .string t8, .int .i64 nm, .int .i64 nu, .int .i64 ng, .int .i64 nt, .string t10, .string t11, .string ⟨#[]⟩] | 109 => v = .string s | 110 => v = .string (s.extract 156 157) | 111 => v = .slice (some ⟨gb, 0, none⟩) 5 cp | 112 => v = .pointer (some ⟨gb, 3, none⟩) | 113 => v = .int .i64 nz | 3 => v = .string (s.extract 156 157) | 4 => v = .int .i64 nz | 5 => v = .int .i64 0 | _ => True) (U := fun o w' => o.dst = none → w'.heap[w.heap.size]? = some (.cells #[.int .i64 0, .string pth, .string t8, .int .i64 nm, .int .i64 nu, .int .i64 ng, .int .i64 nt, .string t10, .string t11, .string ⟨#[]⟩] 32 (0, 0))) (w' := w2) (.agg #[.int .i64 0, .string pth, .string t8, .int .i64 nm, .int .i64 nu, .int .i64 ng, .int .i64 nt, .string t10, .string t11, .string ⟨#[]⟩]) ?_ ?_ ?_ ?_ ?_
                        · (clear hV hI hC; go_simp <;> (first | rfl | simp))
                        · exact hC
                        · exact Or.inl rfl
                        · intro d hd; cases hd; exact rfl
                        · intro h; cases h
                      case o109 =>
                        intro Q a w2 hC hV hI
                        have e0 : a.eval (.tmp 0) = .string s := (hI 0 (by simp [Op.operands]) (by kernel_rfl)).trans rfl
                        have f0 : a.tmps.getD 0 undef = .string s := e0
                        have g0 : a.tmps[0]?.getD undef = .string s := by rw [← Array.getD_eq_getD_getElem?]; exact e0
                        refine opU_val (C := fun w' => Below w.heap.size w w' ∧ w'.heap[G]? = some (.cells #[.int .i64 0, .string pth, .string t8, .int .i64 nm, .int .i64 nu, .int .i64 ng, .int .i64 nt, .string t10, .string t11, .string ⟨#[]⟩] 32 (0, 0)) ∧ w'.cell? ⟨gb, 3, none⟩ = some (.int .i64 nz) ∧ (w'.heap[w.heap.size]? = some (.cells zEnt 32 (0, 0)) ∨ w'.heap[w.heap.size]? = some (.cells #[.int .i64 0, .string pth, .string t8, .int .i64 nm, .int .i64 nu, .int .i64 ng, .int .i64 nt, .string t10, .string t11, .string ⟨#[]⟩] 32 (0, 0)))) (St := fun x y => y.heap[w.heap.size]? = x.heap[w.heap.size]? ∨ y.heap[w.heap.size]? = some (.cells #[.int .i64 0, .string pth, .string t8, .int .i64 nm, .int .i64 nu, .int .i64 ng, .int .i64 nt, .string t10, .string t11, .string ⟨#[]⟩] 32 (0, 0))) (V := fun d v _ => match d with | 108 => v = .agg #[.int .i64 0, .string pth, .string t8, .int .i64 nm, .int .i64 nu, .int .i64 ng, .int .i64 nt, .string t10, .string t11, .string ⟨#[]⟩] | 109 => v = .string s | 110 => v = .string (s.extract 156 157) | 111 => v = .slice (some ⟨gb, 0, none⟩) 5 cp | 112 => v = .pointer (some ⟨gb, 3, none⟩) | 113 => v = .int .i64 nz | 3 => v = .string (s.extract 156 157) | 4 => v = .int .i64 nz | 5 => v = .int .i64 0 | _ => True) (U := fun o w' => o.dst = none → w'.heap[w.heap.size]? = some (.cells #[.int .i64 0, .string pth, .string t8, .int .i64 nm, .int .i64 nu, .int .i64 ng, .int .i64 nt, .string t10, .string t11, .string ⟨#[]⟩] 32 (0, 0))) (w' := w2) (.string s) ?_ ?_ ?_ ?_ ?_
                        · (clear hV hI hC; go_simp <;> (first | rfl | simp))
                        · exact hC
                        · exact Or.inl rfl
                        · intro d hd; cases hd; exact rfl
                        · intro h; cases h
                      case o110 =>
                        intro Q a w2 hC hV hI
                        have e109 : a.eval (.tmp 109) = .string s := hV 109 (by simp [Op.operands]) (by kernel_rfl)
                        have f109 : a.tmps.getD 109 undef = .string s := e109
                        have g109 : a.tmps[109]?.getD undef = .string s := by rw [← Array.getD_eq_getD_getElem?]; exact e109
                        refine opU_val (C := fun w' => Below w.heap.size w w' ∧ w'.heap[G]? = some (.cells #[.int .i64 0, .string pth, .string t8, .int .i64 nm, .int .i64 nu, .int .i64 ng, .int .i64 nt, .string t10, .string t11, .string ⟨#[]⟩] 32 (0, 0)) ∧ w'.cell? ⟨gb, 3, none⟩ = some (.int .i64 nz) ∧ (w'.heap[w.heap.size]? = some (.cells zEnt 32 (0, 0)) ∨ w'.heap[w.heap.size]? = some (.cells #[.int .i64 0, .string pth, .string t8, .int .i64 nm, .int .i64 nu, .int .i64 ng, .int .i64 nt, .string t10, .string t11, .string ⟨#[]⟩] 32 (0, 0)))) (St := fun x y => y.heap[w.heap.size]? = x.heap[w.heap.size]? ∨ y.heap[w.heap.size]? = some (.cells #[.int .i64 0, .string pth, .string t8, .int .i64 nm, .int .i64 nu, .int .i64 ng, .int .i64 nt, .string t10, .string t11, .string ⟨#[]⟩] 32 (0, 0))) (V := fun d v _ => match d with | 108 => v = .agg #[.int .i64 0, .string pth, .string t8, .int .i64 nm, .int .i64 nu, .int .i64 ng, .int .i64 nt, .string t10, .string t11, .string ⟨#[]⟩] | 109 => v = .string s | 110 => v = .string (s.extract 156 157) | 111 => v = .slice (some ⟨gb, 0, none⟩) 5 cp | 112 => v = .pointer (some ⟨gb, 3, none⟩) | 113 => v = .int .i64 nz | 3 => v = .string (s.extract 156 157) | 4 => v = .int .i64 nz | 5 => v = .int .i64 0 | _ => True) (U := fun o w' => o.dst = none → w'.heap[w.heap.size]? = some (.cells #[.int .i64 0, .string pth, .string t8, .int .i64 nm, .int .i64 nu, .int .i64 ng, .int .i64 nt, .string t10, .string t11, .string ⟨#[]⟩] 32 (0, 0))) (w' := w2) (.string (s.extract 156 157)) ?_ ?_ ?_ ?_ ?_
                        · (clear hV hI hC; go_simp <;> (first | rfl | simp))
                        · exact hC
                        · exact Or.inl rfl
                        · intro d hd; cases hd; exact rfl
                        · intro h; cases h
                      case o111 =>
                        intro Q a w2 hC hV hI
                        have e8 : a.eval (.tmp 8) = .slice (some ⟨gb, 0, none⟩) 5 cp := (hI 8 (by simp [Op.operands]) (by kernel_rfl)).trans rfl
                        have f8 : a.tmps.getD 8 undef = .slice (some ⟨gb, 0, none⟩) 5 cp := e8
                        have g8 : a.tmps[8]?.getD undef = .slice (some ⟨gb, 0, none⟩) 5 cp := by rw [← Array.getD_eq_getD_getElem?]; exact e8
                        refine opU_val (C := fun w' => Below w.heap.size w w' ∧ w'.heap[G]? = some (.cells #[.int .i64 0, .string pth, .string t8, .int .i64 nm, .int .i64 nu, .int .i64 ng, .int .i64 nt, .string t10, .string t11, .string ⟨#[]⟩] 32 (0, 0)) ∧ w'.cell? ⟨gb, 3, none⟩ = some (.int .i64 nz) ∧ (w'.heap[w.heap.size]? = some (.cells zEnt 32 (0, 0)) ∨ w'.heap[w.heap.size]? = some (.cells #[.int .i64 0, .string pth, .string t8, .int .i64 nm, .int .i64 nu, .int .i64 ng, .int .i64 nt, .string t10, .string t11, .string ⟨#[]⟩] 32 (0, 0)))) (St := fun x y => y.heap[w.heap.size]? = x.heap[w.heap.size]? ∨ y.heap[w.heap.size]? = some (.cells #[.int .i64 0, .string pth, .string t8, .int .i64 nm, .int .i64 nu, .int .i64 ng, .int .i64 nt, .string t10, .string t11, .string ⟨#[]⟩] 32 (0, 0))) (V := fun d v _ => match d with | 108 => v = .agg #[.int .i64 0, .string pth, .string t8, .int .i64 nm, .int .i64 nu, .int .i64 ng, .int .i64 nt, .string t10, .string t11, .string ⟨#[]⟩] | 109 => v = .string s | 110 => v = .string (s.extract 156 157) | 111 => v = .slice (some ⟨gb, 0, none⟩) 5 cp | 112 => v = .pointer (some ⟨gb, 3, none⟩) | 113 => v = .int .i64 nz | 3 => v = .string (s.extract 156 157) | 4 => v = .int .i64 nz | 5 => v = .int .i64 0 | _ => True) (U := fun o w' => o.dst = none → w'.heap[w.heap.size]? = some (.cells #[.int .i64 0, .string pth, .string t8, .int .i64 nm, .int .i64 nu, .int .i64 ng, .int .i64 nt, .string t10, .string t11, .string ⟨#[]⟩] 32 (0, 0))) (w' := w2) (.slice (some ⟨gb, 0, none⟩) 5 cp) ?_ ?_ ?_ ?_ ?_
                        · (clear hV hI hC; go_simp <;> (first | rfl | simp))
                        · exact hC
                        · exact Or.inl rfl
                        · intro d hd; cases hd; exact rfl
                        · intro h; cases h
                      case o112 =>
                        intro Q a w2 hC hV hI
                        have e111 : a.eval (.tmp 111) = .slice (some ⟨gb, 0, none⟩) 5 cp := hV 111 (by simp [Op.operands]) (by kernel_rfl)
                        have f111 : a.tmps.getD 111 undef = .slice (some ⟨gb, 0, none⟩) 5 cp := e111
                        have g111 : a.tmps[111]?.getD undef = .slice (some ⟨gb, 0, none⟩) 5 cp := by rw [← Array.getD_eq_getD_getElem?]; exact e111
                        refine opU_val (C := fun w' => Below w.heap.size w w' ∧ w'.heap[G]? = some (.cells #[.int .i64 0, .string pth, .string t8, .int .i64 nm, .int .i64 nu, .int .i64 ng, .int .i64 nt, .string t10, .string t11, .string ⟨#[]⟩] 32 (0, 0)) ∧ w'.cell? ⟨gb, 3, none⟩ = some (.int .i64 nz) ∧ (w'.heap[w.heap.size]? = some (.cells zEnt 32 (0, 0)) ∨ w'.heap[w.heap.size]? = some (.cells #[.int .i64 0, .string pth, .string t8, .int .i64 nm, .int .i64 nu, .int .i64 ng, .int .i64 nt, .string t10, .string t11, .string ⟨#[]⟩] 32 (0, 0)))) (St := fun x y => y.heap[w.heap.size]? = x.heap[w.heap.size]? ∨ y.heap[w.heap.size]? = some (.cells #[.int .i64 0, .string pth, .string t8, .int .i64 nm, .int .i64 nu, .int .i64 ng, .int .i64 nt, .string t10, .string t11, .string ⟨#[]⟩] 32 (0, 0))) (V := fun d v _ => match d with | 108 => v = .agg #[.int .i64 0, .string pth, .string t8, .int .i64 nm, .int .i64 nu, .int .i64 ng, .int .i64 nt, .string t10, .string t11, .string ⟨#[]⟩] | 109 => v = .string s | 110 => v = .string (s.extract 156 157) | 111 => v = .slice (some ⟨gb, 0, none⟩) 5 cp | 112 => v = .pointer (some ⟨gb, 3, none⟩) | 113 => v = .int .i64 nz | 3 => v = .string (s.extract 156 157) | 4 => v = .int .i64 nz | 5 => v = .int .i64 0 | _ => True) (U := fun o w' => o.dst = none → w'.heap[w.heap.size]? = some (.cells #[.int .i64 0, .string pth, .string t8, .int .i64 nm, .int .i64 nu, .int .i64 ng, .int .i64 nt, .string t10, .string t11, .string ⟨#[]⟩] 32 (0, 0))) (w' := w2) (.pointer (some ⟨gb, 3, none⟩)) ?_ ?_ ?_ ?_ ?_
                        · (clear hV hI hC; go_simp <;> (first | rfl | simp))
                        · exact hC
                        · exact Or.inl rfl
                        · intro d hd; cases hd; exact rfl
                        · intro h; cases h
                      case o113 =>
                        intro Q a w2 hC hV hI
                        have e112 : a.eval (.tmp 112) = .pointer (some ⟨gb, 3, none⟩) := hV 112 (by simp [Op.operands]) (by kernel_rfl)
                        have f112 : a.tmps.getD 112 undef = .pointer (some ⟨gb, 3, none⟩) := e112
                        have g112 : a.tmps[112]?.getD undef = .pointer (some ⟨gb, 3, none⟩) := by rw [← Array.getD_eq_getD_getElem?]; exact e112
                        have hK := hC.2.2.1
                        refine opU_val (C := fun w' => Below w.heap.size w w' ∧ w'.heap[G]? = some (.cells #[.int .i64 0, .string pth, .string t8, .int .i64 nm, .int .i64 nu, .int .i64 ng, .int .i64 nt, .string t10, .string t11, .string ⟨#[]⟩] 32 (0, 0)) ∧ w'.cell? ⟨gb, 3, none⟩ = some (.int .i64 nz) ∧ (w'.heap[w.heap.size]? = some (.cells zEnt 32 (0, 0)) ∨ w'.heap[w.heap.size]? = some (.cells #[.int .i64 0, .string pth, .string t8, .int .i64 nm, .int .i64 nu, .int .i64 ng, .int .i64 nt, .string t10, .string t11, .string ⟨#[]⟩] 32 (0, 0)))) (St := fun x y => y.heap[w.heap.size]? = x.heap[w.heap.size]? ∨ y.heap[w.heap.size]? = some (.cells #[.int .i64 0, .string pth, .string t8, .int .i64 nm, .int .i64 nu, .int .i64 ng, .int .i64 nt, .string t10, .string t11, .string ⟨#[]⟩] 32 (0, 0))) (V := fun d v _ => match d with | 108 => v = .agg #[.int .i64 0, .string pth, .string t8, .int .i64 nm, .int .i64 nu, .int .i64 ng, .int .i64 nt, .string t10, .string t11, .string ⟨#[]⟩] | 109 => v = .string s | 110 => v = .string (s.extract 156 157) | 111 => v = .slice (some ⟨gb, 0, none⟩) 5 cp | 112 => v = .pointer (some ⟨gb, 3, none⟩) | 113 => v = .int .i64 nz | 3 => v = .string (s.extract 156 157) | 4 => v = .int .i64 nz | 5 => v = .int .i64 0 | _ => True) (U := fun o w' => o.dst = none → w'.heap[w.heap.size]? = some (.cells #[.int .i64 0, .string pth, .string t8, .int .i64 nm, .int .i64 nu, .int .i64 ng, .int .i64 nt, .string t10, .string t11, .string ⟨#[]⟩] 32 (0, 0))) (w' := w2) (.int .i64 nz) ?_ ?_ ?_ ?_ ?_
                        · (clear hV hI hC; go_simp <;> (first | rfl | simp))
                        · exact hC
                        · exact Or.inl rfl
                        · intro d hd; cases hd; exact rfl
                        · intro h; cases h
                      case os =>
                        intro Q a w2 hC hV hI
                        have e2 : a.eval (.tmp 2) = .pointer (some ⟨w.heap.size, 0, none⟩) := (hI 2 (by simp [Op.operands]) (by kernel_rfl)).trans rfl
                        have f2 : a.tmps.getD 2 undef = .pointer (some ⟨w.heap.size, 0, none⟩) := e2
                        have g2 : a.tmps[2]?.getD undef = .pointer (some ⟨w.heap.size, 0, none⟩) := by rw [← Array.getD_eq_getD_getElem?]; exact e2
                        have e108 : a.eval (.tmp 108) = .agg #[.int .i64 0, .string pth, .string t8, .int .i64 nm, .int .i64 nu, .int .i64 ng, .int .i64 nt, .string t10, .string t11, .string ⟨#[]⟩] := hV 108 (by simp [Op.operands]) (by kernel_rfl)
                        have f108 : a.tmps.getD 108 undef = .agg #[.int .i64 0, .string pth, .string t8, .int .i64 nm, .int .i64 nu, .int .i64 ng, .int .i64 nt, .string t10, .string t11, .string ⟨#[]⟩] := e108
                        have g108 : a.tmps[108]?.getD undef = .agg #[.int .i64 0, .string pth, .string t8, .int .i64 nm, .int .i64 nu, .int .i64 ng, .int .i64 nt, .string t10, .string t11, .string ⟨#[]⟩] := by rw [← Array.getD_eq_getD_getElem?]; exact e108
                        have hS : ∀ cs : Array Value, cs.size = 10 → w2.heap[w.heap.size]? = some (.cells cs 32 (0, 0)) → _ := fun cs hc hR => run_storeVar_row (P := Tryz.prog) w2 w.heap.size 32 32 cs #[.int .i64 0, .string pth, .string t8, .int .i64 nm, .int .i64 nu, .int .i64 ng, .int .i64 nt, .string t10, .string t11, .string ⟨#[]⟩] hR (by rw [Tryz.sizeEnt]; rfl) hc (by simp [Value.oneCell'])
                        have hR2 : (w2.setRow w.heap.size #[.int .i64 0, .string pth, .string t8, .int .i64 nm, .int .i64 nu, .int .i64 ng, .int .i64 nt, .string t10, .string t11, .string ⟨#[]⟩]).heap[w.heap.size]? = some (.cells #[.int .i64 0, .string pth, .string t8, .int .i64 nm, .int .i64 nu, .int .i64 ng, .int .i64 nt, .string t10, .string t11, .string ⟨#[]⟩] 32 (0, 0)) := hC.2.2.2.elim (fun h => setRow_heap _ _ _ _ _ _ h) (fun h => setRow_heap _ _ _ _ _ _ h)
                        refine opU_store (C := fun w' => Below w.heap.size w w' ∧ w'.heap[G]? = some (.cells #[.int .i64 0, .string pth, .string t8, .int .i64 nm, .int .i64 nu, .int .i64 ng, .int .i64 nt, .string t10, .string t11, .string ⟨#[]⟩] 32 (0, 0)) ∧ w'.cell? ⟨gb, 3, none⟩ = some (.int .i64 nz) ∧ (w'.heap[w.heap.size]? = some (.cells zEnt 32 (0, 0)) ∨ w'.heap[w.heap.size]? = some (.cells #[.int .i64 0, .string pth, .string t8, .int .i64 nm, .int .i64 nu, .int .i64 ng, .int .i64 nt, .string t10, .string t11, .string ⟨#[]⟩] 32 (0, 0)))) (St := fun x y => y.heap[w.heap.size]? = x.heap[w.heap.size]? ∨ y.heap[w.heap.size]? = some (.cells #[.int .i64 0, .string pth, .string t8, .int .i64 nm, .int .i64 nu, .int .i64 ng, .int .i64 nt, .string t10, .string t11, .string ⟨#[]⟩] 32 (0, 0))) (V := fun d v _ => match d with | 108 => v = .agg #[.int .i64 0, .string pth, .string t8, .int .i64 nm, .int .i64 nu, .int .i64 ng, .int .i64 nt, .string t10, .string t11, .string ⟨#[]⟩] | 109 => v = .string s | 110 => v = .string (s.extract 156 157) | 111 => v = .slice (some ⟨gb, 0, none⟩) 5 cp | 112 => v = .pointer (some ⟨gb, 3, none⟩) | 113 => v = .int .i64 nz | 3 => v = .string (s.extract 156 157) | 4 => v = .int .i64 nz | 5 => v = .int .i64 0 | _ => True) (U := fun o w' => o.dst = none → w'.heap[w.heap.size]? = some (.cells #[.int .i64 0, .string pth, .string t8, .int .i64 nm, .int .i64 nu, .int .i64 ng, .int .i64 nt, .string t10, .string t11, .string ⟨#[]⟩] 32 (0, 0))) 32 _ _ rfl rfl ⟨w.heap.size, 0, none⟩ e2 e108 (hC.2.2.2.elim (fun h => hS _ rfl h) (fun h => hS _ rfl h)) ?_ ?_ ?_
                        · exact ⟨hC.1.trans (below_set (Nat.le_refl _) _), by rw [setRow_other _ _ _ _ (by omega)]; exact hC.2.1, (cell_setRow_other (by omega)).trans hC.2.2.1, Or.inr hR2⟩
                        · exact Or.inr hR2
                        · intro _; exact hR2
                      case o3 =>
                        intro Q a w2 hC hV hI
                        have e110 : a.eval (.tmp 110) = .string (s.extract 156 157) := hV 110 (by simp [Op.operands]) (by kernel_rfl)
                        have f110 : a.tmps.getD 110 undef = .string (s.extract 156 157) := e110
                        have g110 : a.tmps[110]?.getD undef = .string (s.extract 156 157) := by rw [← Array.getD_eq_getD_getElem?]; exact e110
                        refine opU_val (C := fun w' => Below w.heap.size w w' ∧ w'.heap[G]? = some (.cells #[.int .i64 0, .string pth, .string t8, .int .i64 nm, .int .i64 nu, .int .i64 ng, .int .i64 nt, .string t10, .string t11, .string ⟨#[]⟩] 32 (0, 0)) ∧ w'.cell? ⟨gb, 3, none⟩ = some (.int .i64 nz) ∧ (w'.heap[w.heap.size]? = some (.cells zEnt 32 (0, 0)) ∨ w'.heap[w.heap.size]? = some (.cells #[.int .i64 0, .string pth, .string t8, .int .i64 nm, .int .i64 nu, .int .i64 ng, .int .i64 nt, .string t10, .string t11, .string ⟨#[]⟩] 32 (0, 0)))) (St := fun x y => y.heap[w.heap.size]? = x.heap[w.heap.size]? ∨ y.heap[w.heap.size]? = some (.cells #[.int .i64 0, .string pth, .string t8, .int .i64 nm, .int .i64 nu, .int .i64 ng, .int .i64 nt, .string t10, .string t11, .string ⟨#[]⟩] 32 (0, 0))) (V := fun d v _ => match d with | 108 => v = .agg #[.int .i64 0, .string pth, .string t8, .int .i64 nm, .int .i64 nu, .int .i64 ng, .int .i64 nt, .string t10, .string t11, .string ⟨#[]⟩] | 109 => v = .string s | 110 => v = .string (s.extract 156 157) | 111 => v = .slice (some ⟨gb, 0, none⟩) 5 cp | 112 => v = .pointer (some ⟨gb, 3, none⟩) | 113 => v = .int .i64 nz | 3 => v = .string (s.extract 156 157) | 4 => v = .int .i64 nz | 5 => v = .int .i64 0 | _ => True) (U := fun o w' => o.dst = none → w'.heap[w.heap.size]? = some (.cells #[.int .i64 0, .string pth, .string t8, .int .i64 nm, .int .i64 nu, .int .i64 ng, .int .i64 nt, .string t10, .string t11, .string ⟨#[]⟩] 32 (0, 0))) (w' := w2) (.string (s.extract 156 157)) ?_ ?_ ?_ ?_ ?_
                        · (clear hV hI hC; go_simp <;> (first | rfl | simp))
                        · exact hC
                        · exact Or.inl rfl
                        · intro d hd; cases hd; exact rfl
                        · intro h; cases h
                      case o4 =>
                        intro Q a w2 hC hV hI
                        have e113 : a.eval (.tmp 113) = .int .i64 nz := hV 113 (by simp [Op.operands]) (by kernel_rfl)
                        have f113 : a.tmps.getD 113 undef = .int .i64 nz := e113
                        have g113 : a.tmps[113]?.getD undef = .int .i64 nz := by rw [← Array.getD_eq_getD_getElem?]; exact e113
                        refine opU_val (C := fun w' => Below w.heap.size w w' ∧ w'.heap[G]? = some (.cells #[.int .i64 0, .string pth, .string t8, .int .i64 nm, .int .i64 nu, .int .i64 ng, .int .i64 nt, .string t10, .string t11, .string ⟨#[]⟩] 32 (0, 0)) ∧ w'.cell? ⟨gb, 3, none⟩ = some (.int .i64 nz) ∧ (w'.heap[w.heap.size]? = some (.cells zEnt 32 (0, 0)) ∨ w'.heap[w.heap.size]? = some (.cells #[.int .i64 0, .string pth, .string t8, .int .i64 nm, .int .i64 nu, .int .i64 ng, .int .i64 nt, .string t10, .string t11, .string ⟨#[]⟩] 32 (0, 0)))) (St := fun x y => y.heap[w.heap.size]? = x.heap[w.heap.size]? ∨ y.heap[w.heap.size]? = some (.cells #[.int .i64 0, .string pth, .string t8, .int .i64 nm, .int .i64 nu, .int .i64 ng, .int .i64 nt, .string t10, .string t11, .string ⟨#[]⟩] 32 (0, 0))) (V := fun d v _ => match d with | 108 => v = .agg #[.int .i64 0, .string pth, .string t8, .int .i64 nm, .int .i64 nu, .int .i64 ng, .int .i64 nt, .string t10, .string t11, .string ⟨#[]⟩] | 109 => v = .string s | 110 => v = .string (s.extract 156 157) | 111 => v = .slice (some ⟨gb, 0, none⟩) 5 cp | 112 => v = .pointer (some ⟨gb, 3, none⟩) | 113 => v = .int .i64 nz | 3 => v = .string (s.extract 156 157) | 4 => v = .int .i64 nz | 5 => v = .int .i64 0 | _ => True) (U := fun o w' => o.dst = none → w'.heap[w.heap.size]? = some (.cells #[.int .i64 0, .string pth, .string t8, .int .i64 nm, .int .i64 nu, .int .i64 ng, .int .i64 nt, .string t10, .string t11, .string ⟨#[]⟩] 32 (0, 0))) (w' := w2) (.int .i64 nz) ?_ ?_ ?_ ?_ ?_
                        · (clear hV hI hC; go_simp <;> (first | rfl | simp))
                        · exact hC
                        · exact Or.inl rfl
                        · intro d hd; cases hd; exact rfl
                        · intro h; cases h
                      case o5 =>
                        intro Q a w2 hC hV hI
                        refine opU_val (C := fun w' => Below w.heap.size w w' ∧ w'.heap[G]? = some (.cells #[.int .i64 0, .string pth, .string t8, .int .i64 nm, .int .i64 nu, .int .i64 ng, .int .i64 nt, .string t10, .string t11, .string ⟨#[]⟩] 32 (0, 0)) ∧ w'.cell? ⟨gb, 3, none⟩ = some (.int .i64 nz) ∧ (w'.heap[w.heap.size]? = some (.cells zEnt 32 (0, 0)) ∨ w'.heap[w.heap.size]? = some (.cells #[.int .i64 0, .string pth, .string t8, .int .i64 nm, .int .i64 nu, .int .i64 ng, .int .i64 nt, .string t10, .string t11, .string ⟨#[]⟩] 32 (0, 0)))) (St := fun x y => y.heap[w.heap.size]? = x.heap[w.heap.size]? ∨ y.heap[w.heap.size]? = some (.cells #[.int .i64 0, .string pth, .string t8, .int .i64 nm, .int .i64 nu, .int .i64 ng, .int .i64 nt, .string t10, .string t11, .string ⟨#[]⟩] 32 (0, 0))) (V := fun d v _ => match d with | 108 => v = .agg #[.int .i64 0, .string pth, .string t8, .int .i64 nm, .int .i64 nu, .int .i64 ng, .int .i64 nt, .string t10, .string t11, .string ⟨#[]⟩] | 109 => v = .string s | 110 => v = .string (s.extract 156 157) | 111 => v = .slice (some ⟨gb, 0, none⟩) 5 cp | 112 => v = .pointer (some ⟨gb, 3, none⟩) | 113 => v = .int .i64 nz | 3 => v = .string (s.extract 156 157) | 4 => v = .int .i64 nz | 5 => v = .int .i64 0 | _ => True) (U := fun o w' => o.dst = none → w'.heap[w.heap.size]? = some (.cells #[.int .i64 0, .string pth, .string t8, .int .i64 nm, .int .i64 nu, .int .i64 ng, .int .i64 nt, .string t10, .string t11, .string ⟨#[]⟩] 32 (0, 0))) (w' := w2) (.int .i64 0) ?_ ?_ ?_ ?_ ?_
                        · (clear hV hI hC; go_simp <;> (first | rfl | simp))
                        · exact hC
                        · exact Or.inl rfl
                        · intro d hd; cases hd; exact rfl
                        · intro h; cases h
                    case hend =>
                      intro f w7 hC hall huall
                      simp only [List.forall_mem_cons] at hall
                      obtain ⟨h108, h109, h110, h111, h112, h113, _, h3, h4, h5, _⟩ := hall
                      simp only [List.forall_mem_cons] at huall
                      obtain ⟨_, _, _, _, _, _, hus, _, _, _, _⟩ := huall
                      replace h108 : f 108 = .agg #[.int .i64 0, .string pth, .string t8, .int .i64 nm, .int .i64 nu, .int .i64 ng, .int .i64 nt, .string t10, .string t11, .string ⟨#[]⟩] := h108 108 rfl
                      replace h109 : f 109 = .string s := h109 109 rfl
                      replace h110 : f 110 = .string (s.extract 156 157) := h110 110 rfl
                      replace h111 : f 111 = .slice (some ⟨gb, 0, none⟩) 5 cp := h111 111 rfl
                      replace h112 : f 112 = .pointer (some ⟨gb, 3, none⟩) := h112 112 rfl
                      replace h113 : f 113 = .int .i64 nz := h113 113 rfl
                      replace h3 : f 3 = .string (s.extract 156 157) := h3 3 rfl
                      replace h4 : f 4 = .int .i64 nz := h4 4 rfl
                      replace h5 : f 5 = .int .i64 0 := h5 5 rfl
                      simp only [putAll, Act.put, List.setIfInBounds_toArray, List.set_cons_succ, List.set_cons_zero, h108, h109, h110, h111, h112, h113, h3, h4, h5]
                      clear h108 h109 h110 h111 h112 h113 h3 h4 h5
                      have R5 := Lib.hid (hus trivial)
                      have B5 := Lib.hid hC.1
                      clear hC hus
                      go_wp2
                      refine bodyPost_ret (results_cell4 rfl _ _ w.heap.size _ #[.int .i64 0, .string pth, .string t8, .int .i64 nm, .int .i64 nu, .int .i64 ng, .int .i64 nt, .string t10, .string t11, .string ⟨#[]⟩] (0, 0) _ rfl R5.out Tryz.underlying32 rfl (by rw [Tryz.sizeEnt]; rfl)) rfl ?_
                      rw [HE.out]
                      exact ⟨rfl, B5.out⟩
              · have HE := Lib.hid (readS_bad (HS3.out (by rw [headOk]; simp [hz])) (by omega))
                have HSt := Lib.hid (run_storeVar_row (P := Tryz.prog) wr w.heap.size 32 32 zEnt zEnt RO3.out (by rw [Tryz.sizeEnt]; rfl) rfl (by simp [zEnt, Value.oneCell']))
                go_wp2_with ((with_reducible refine wpList_store_eq rfl 32 _ _ rfl ⟨w.heap.size, 0, none⟩ ?_ ?_ HSt.out ?_); rfl; rfl)
                refine bodyPost_ret (results_cell4 rfl _ _ w.heap.size _ zEnt (0, 0) _ rfl (setRow_heap _ _ _ _ _ _ RO3.out) Tryz.underlying32 rfl (by rw [Tryz.sizeEnt]; rfl)) rfl ?_
                rw [HE.out]
                exact ⟨rfl, B3.out.trans (below_set (Nat.le_refl _) _)⟩
            · rcases (show i = 0 ∨ i = 1 ∨ i = 2 ∨ i = 3 ∨ i = 4 by omega) with rfl | rfl | rfl | rfl | rfl
              · have HN := Lib.hid (fun w => num_spec (s.extract 100 108) w (by rw [ByteArray.size_extract]; omega) (by rw [ByteArray.size_extract]; omega))
                have HV : Hid (s.extract 100 108 = fW (lOf s) 1) := Lib.hid (fW_ext s 1 8 (by omega) rfl).symm
                have hfv : fnumv (s.extract 100 108) = fnumv (fW (lOf s) 1) := by rw [HV.out]
                have hfo : fnumOk (s.extract 100 108) = fnumOk (fW (lOf s) 1) := by rw [HV.out]
                rw [hfv, hfo] at HN
                have HSU := Lib.hid (nl_succ (lOf s) 0)
                generalize fnumv (fW (lOf s) 1) = nv at HN HSU
                clear hfv hfo HV
                have cb : (108 : Int) ≤ (s.size : Int) := by omega
                have hA0 : wr.cell? ⟨w1.heap.size + 1, 0, none⟩ = some (.int .i64 100) ∧ wr.cell? ⟨w1.heap.size + 1, 1, none⟩ = some (.int .i64 108) := ⟨by rw [cell_of_row _ _ _ _ _ _ AO.out]; rfl, by rw [cell_of_row _ _ _ _ _ _ AO.out]; rfl⟩
                have zA := obj_lt AO.out
                obtain ⟨ca, cb2⟩ := hA0
                rw [show ((0 : Nat) : Int) = 0 from rfl]
                go_wp2_with fail
                have hw : IntKind.i64.wrap ((0 : Int) + 1) = 1 := by decide
                have hw2 : IntKind.i64.wrap (1 : Int) = 1 := by decide
                go_region_held3 (fun w' => w'.cell? ⟨w1.heap.size + 1, 0, none⟩ = some (.int .i64 100) ∧ w'.cell? ⟨w1.heap.size + 1, 1, none⟩ = some (.int .i64 108)) (first | assumption | exact ca | exact cb2 | exact ⟨ca, cb2⟩) (first | (go_at_call 64; refine (HN.out _).mono ?_; rintro e w3 ⟨rfl, hb⟩; have d3 : w3.cell? ⟨w1.heap.size + 1, 0, none⟩ = some (.int .i64 100) ∧ w3.cell? ⟨w1.heap.size + 1, 1, none⟩ = some (.int .i64 108) := ⟨(hb.cell (p := ⟨w1.heap.size + 1, 0, none⟩) zA).trans ca, (hb.cell (p := ⟨w1.heap.size + 1, 1, none⟩) zA).trans cb2⟩; have BB := Lib.hid hb; clear hb))
                have AO3 := Lib.hid ((BB.out.block _ zA).trans AO.out)
                have D3 := Lib.hid (bl_sp BB.out D.out.os D.out.tape D.out.output D.out.size D.out.block)
                have O3 := Lib.hid (World.ownsRow.kept O.out (row := none) (show wr.grownBy w3 none from ⟨BB.out.os, BB.out.tape, BB.out.output, BB.out.size, fun k hk _ => BB.out.block k hk⟩) (by simp [Value.ownBlock]))
                have zA3 := obj_lt AO3.out
                clear BB d3 ca cb2 O AO D zA
                cases hob : fnumOk (fW (lOf s) 1) with
                | false =>
                  have HE := Lib.hid (readS_bad (HS3.out (ok5_bad (l := lOf s) (i := 0) (by omega) hob)) (by omega))
                  have RO3 := Lib.hid ((D3.out.block _ zR).trans RO1.out)
                  have HSt := Lib.hid (run_storeVar_row (P := Tryz.prog) w3 w.heap.size 32 32 zEnt zEnt RO3.out (by rw [Tryz.sizeEnt]; rfl) rfl (by simp [zEnt, Value.oneCell']))
                  have B3 := Lib.hid (BW1.out.trans (D3.out.mono BW1.out.size))
                  clear hob O3 AO3
                  go_wp2_with ((with_reducible refine wpList_store_eq rfl 32 _ _ rfl ⟨w.heap.size, 0, none⟩ ?_ ?_ HSt.out ?_); rfl; rfl)
                  refine bodyPost_ret (results_cell4 rfl _ _ w.heap.size _ zEnt (0, 0) _ rfl (setRow_heap _ _ _ _ _ _ RO3.out) Tryz.underlying32 rfl (by rw [Tryz.sizeEnt]; rfl)) rfl ?_
                  rw [HE.out]
                  exact ⟨rfl, B3.out.trans (below_set (Nat.le_refl _) _)⟩
                | true =>
                  have HK : Hid (ok5 (lOf s) 1 = true) := Lib.hid (by rw [ok5, OK.out, hob]; rfl)
                  have sD := D3.out.size
                  clear hob
                  go_wp2_with (at_builtin; refine wpList_append_own_at _ rfl _ _ 100 rfl w1.heap.size 3 i0 (.int .i64 0) 1 8 Tryz.underlying100 hi0 hz0 hz1 hz2 rfl (by decide) _ _ _ rfl (World.ownsRow.alloc O3.out _) ⟨w3.heap.size, 0, none⟩ 1 1 [.int .i64 nv] rfl rfl ?c1 ?c2 ?c3 ?c4 ?c5 ?_)
                  case c1 => exact cell_one_new _ _ _
                  case c2 => intro u hu; simp at hu; subst hu; rfl
                  case c3 => simp only [maxLen]; omega
                  case c4 => omega
                  case c5 => simp; omega
                  · intro v4 w4 hown4 hgrow4 _ hob4
                    have O4 : Hid (w4.ownsRow w1.heap.size 3 1 v4 1 (nl (lOf s) 1)) := Lib.hid (by rw [HSU.out]; exact hown4)
                    have V4 : Hid (∃ gb cp, v4 = .slice (some ⟨gb, 0, none⟩) 1 cp ∧ gb ≠ w1.heap.size + 1) := Lib.hid (by
                      rcases hown4.2 with ⟨_, hn⟩ | ⟨g', cap', cur, rfl, _⟩
                      · omega
                      · refine ⟨g', cap', rfl, ?_⟩
                        rcases hob4 with h | h
                        · simp only [Value.ownBlock, Option.some.injEq] at h; omega
                        · simp only [Value.ownBlock, Option.some.injEq] at h; omega)
                    have A4 : Hid (w4.heap[w1.heap.size + 1]? = some (.cells #[.int .i64 100, .int .i64 108, .int .i64 116, .int .i64 124, .int .i64 136, .int .i64 148] 3 (0, 0))) := Lib.hid (by
                      rw [hgrow4.block _ (by simp; omega) (by simp [Value.ownBlock]; omega), ((Below.refl w3.heap.size w3).alloc (Nat.le_refl _) _).block _ zA3]
                      exact AO3.out)
                    have D4 : Hid (Below w1.heap.size w1 w4) := Lib.hid ((D3.out.alloc sD _).grown hgrow4 (by simp; omega) (fun b hb => (World.ownsRow.lt O3.out b hb).1))
                    clear hown4 hgrow4 hob4 O3 AO3 D3
                    go_wp2_with fail
                    go_roundw
                    case rel => exact ⟨1, by go_num, by omega, HK.out, O4.out, V4.out, A4.out, D4.out⟩
                    case measure => simp [intOf]
              · have HN := Lib.hid (fun w => num_spec (s.extract 108 116) w (by rw [ByteArray.size_extract]; omega) (by rw [ByteArray.size_extract]; omega))
                have HV : Hid (s.extract 108 116 = fW (lOf s) 2) := Lib.hid (fW_ext s 2 8 (by omega) rfl).symm
                have hfv : fnumv (s.extract 108 116) = fnumv (fW (lOf s) 2) := by rw [HV.out]
                have hfo : fnumOk (s.extract 108 116) = fnumOk (fW (lOf s) 2) := by rw [HV.out]
                rw [hfv, hfo] at HN
                have HSU := Lib.hid (nl_succ (lOf s) 1)
                generalize fnumv (fW (lOf s) 2) = nv at HN HSU
                clear hfv hfo HV
                have cb : (116 : Int) ≤ (s.size : Int) := by omega
                have hA0 : wr.cell? ⟨w1.heap.size + 1, 1, none⟩ = some (.int .i64 108) ∧ wr.cell? ⟨w1.heap.size + 1, 2, none⟩ = some (.int .i64 116) := ⟨by rw [cell_of_row _ _ _ _ _ _ AO.out]; rfl, by rw [cell_of_row _ _ _ _ _ _ AO.out]; rfl⟩
                have zA := obj_lt AO.out
                obtain ⟨ca, cb2⟩ := hA0
                rw [show ((1 : Nat) : Int) = 1 from rfl]
                go_wp2_with fail
                have hw : IntKind.i64.wrap ((1 : Int) + 1) = 2 := by decide
                have hw2 : IntKind.i64.wrap (2 : Int) = 2 := by decide
                go_region_held3 (fun w' => w'.cell? ⟨w1.heap.size + 1, 1, none⟩ = some (.int .i64 108) ∧ w'.cell? ⟨w1.heap.size + 1, 2, none⟩ = some (.int .i64 116)) (first | assumption | exact ca | exact cb2 | exact ⟨ca, cb2⟩) (first | (go_at_call 64; refine (HN.out _).mono ?_; rintro e w3 ⟨rfl, hb⟩; have d3 : w3.cell? ⟨w1.heap.size + 1, 1, none⟩ = some (.int .i64 108) ∧ w3.cell? ⟨w1.heap.size + 1, 2, none⟩ = some (.int .i64 116) := ⟨(hb.cell (p := ⟨w1.heap.size + 1, 1, none⟩) zA).trans ca, (hb.cell (p := ⟨w1.heap.size + 1, 2, none⟩) zA).trans cb2⟩; have BB := Lib.hid hb; clear hb))
                have AO3 := Lib.hid ((BB.out.block _ zA).trans AO.out)
                have D3 := Lib.hid (bl_sp BB.out D.out.os D.out.tape D.out.output D.out.size D.out.block)
                have O3 := Lib.hid (World.ownsRow.kept O.out (row := none) (show wr.grownBy w3 none from ⟨BB.out.os, BB.out.tape, BB.out.output, BB.out.size, fun k hk _ => BB.out.block k hk⟩) (by simp [Value.ownBlock]))
                have zA3 := obj_lt AO3.out
                clear BB d3 ca cb2 O AO D zA
                cases hob : fnumOk (fW (lOf s) 2) with
                | false =>
                  have HE := Lib.hid (readS_bad (HS3.out (ok5_bad (l := lOf s) (i := 1) (by omega) hob)) (by omega))
                  have RO3 := Lib.hid ((D3.out.block _ zR).trans RO1.out)
                  have HSt := Lib.hid (run_storeVar_row (P := Tryz.prog) w3 w.heap.size 32 32 zEnt zEnt RO3.out (by rw [Tryz.sizeEnt]; rfl) rfl (by simp [zEnt, Value.oneCell']))
                  have B3 := Lib.hid (BW1.out.trans (D3.out.mono BW1.out.size))
                  clear hob O3 AO3
                  go_wp2_with ((with_reducible refine wpList_store_eq rfl 32 _ _ rfl ⟨w.heap.size, 0, none⟩ ?_ ?_ HSt.out ?_); rfl; rfl)
                  refine bodyPost_ret (results_cell4 rfl _ _ w.heap.size _ zEnt (0, 0) _ rfl (setRow_heap _ _ _ _ _ _ RO3.out) Tryz.underlying32 rfl (by rw [Tryz.sizeEnt]; rfl)) rfl ?_
                  rw [HE.out]
                  exact ⟨rfl, B3.out.trans (below_set (Nat.le_refl _) _)⟩
                | true =>
                  have HK : Hid (ok5 (lOf s) 2 = true) := Lib.hid (by rw [ok5, OK.out, hob]; rfl)
                  have sD := D3.out.size
                  clear hob
                  go_wp2_with (at_builtin; refine wpList_append_own_at _ rfl _ _ 100 rfl w1.heap.size 3 i0 (.int .i64 0) 1 8 Tryz.underlying100 hi0 hz0 hz1 hz2 rfl (by decide) _ _ _ rfl (World.ownsRow.alloc O3.out _) ⟨w3.heap.size, 0, none⟩ 1 1 [.int .i64 nv] rfl rfl ?c1 ?c2 ?c3 ?c4 ?c5 ?_)
                  case c1 => exact cell_one_new _ _ _
                  case c2 => intro u hu; simp at hu; subst hu; rfl
                  case c3 => simp only [maxLen]; omega
                  case c4 => omega
                  case c5 => simp; omega
                  · intro v4 w4 hown4 hgrow4 _ hob4
                    have O4 : Hid (w4.ownsRow w1.heap.size 3 1 v4 2 (nl (lOf s) 2)) := Lib.hid (by rw [HSU.out]; exact hown4)
                    have V4 : Hid (∃ gb cp, v4 = .slice (some ⟨gb, 0, none⟩) 2 cp ∧ gb ≠ w1.heap.size + 1) := Lib.hid (by
                      rcases hown4.2 with ⟨_, hn⟩ | ⟨g', cap', cur, rfl, _⟩
                      · omega
                      · refine ⟨g', cap', rfl, ?_⟩
                        rcases hob4 with h | h
                        · simp only [Value.ownBlock, Option.some.injEq] at h; omega
                        · simp only [Value.ownBlock, Option.some.injEq] at h; omega)
                    have A4 : Hid (w4.heap[w1.heap.size + 1]? = some (.cells #[.int .i64 100, .int .i64 108, .int .i64 116, .int .i64 124, .int .i64 136, .int .i64 148] 3 (0, 0))) := Lib.hid (by
                      rw [hgrow4.block _ (by simp; omega) (by simp [Value.ownBlock]; omega), ((Below.refl w3.heap.size w3).alloc (Nat.le_refl _) _).block _ zA3]
                      exact AO3.out)
                    have D4 : Hid (Below w1.heap.size w1 w4) := Lib.hid ((D3.out.alloc sD _).grown hgrow4 (by simp; omega) (fun b hb => (World.ownsRow.lt O3.out b hb).1))
                    clear hown4 hgrow4 hob4 O3 AO3 D3
                    go_wp2_with fail
                    go_roundw
                    case rel => exact ⟨2, by go_num, by omega, HK.out, O4.out, V4.out, A4.out, D4.out⟩
                    case measure => simp [intOf]
              · have HN := Lib.hid (fun w => num_spec (s.extract 116 124) w (by rw [ByteArray.size_extract]; omega) (by rw [ByteArray.size_extract]; omega))
                have HV : Hid (s.extract 116 124 = fW (lOf s) 3) := Lib.hid (fW_ext s 3 8 (by omega) rfl).symm
                have hfv : fnumv (s.extract 116 124) = fnumv (fW (lOf s) 3) := by rw [HV.out]
                have hfo : fnumOk (s.extract 116 124) = fnumOk (fW (lOf s) 3) := by rw [HV.out]
                rw [hfv, hfo] at HN
                have HSU := Lib.hid (nl_succ (lOf s) 2)
                generalize fnumv (fW (lOf s) 3) = nv at HN HSU
                clear hfv hfo HV
                have cb : (124 : Int) ≤ (s.size : Int) := by omega
                have hA0 : wr.cell? ⟨w1.heap.size + 1, 2, none⟩ = some (.int .i64 116) ∧ wr.cell? ⟨w1.heap.size + 1, 3, none⟩ = some (.int .i64 124) := ⟨by rw [cell_of_row _ _ _ _ _ _ AO.out]; rfl, by rw [cell_of_row _ _ _ _ _ _ AO.out]; rfl⟩
                have zA := obj_lt AO.out
                obtain ⟨ca, cb2⟩ := hA0
                rw [show ((2 : Nat) : Int) = 2 from rfl]
                go_wp2_with fail
                have hw : IntKind.i64.wrap ((2 : Int) + 1) = 3 := by decide
                have hw2 : IntKind.i64.wrap (3 : Int) = 3 := by decide
                go_region_held3 (fun w' => w'.cell? ⟨w1.heap.size + 1, 2, none⟩ = some (.int .i64 116) ∧ w'.cell? ⟨w1.heap.size + 1, 3, none⟩ = some (.int .i64 124)) (first | assumption | exact ca | exact cb2 | exact ⟨ca, cb2⟩) (first | (go_at_call 64; refine (HN.out _).mono ?_; rintro e w3 ⟨rfl, hb⟩; have d3 : w3.cell? ⟨w1.heap.size + 1, 2, none⟩ = some (.int .i64 116) ∧ w3.cell? ⟨w1.heap.size + 1, 3, none⟩ = some (.int .i64 124) := ⟨(hb.cell (p := ⟨w1.heap.size + 1, 2, none⟩) zA).trans ca, (hb.cell (p := ⟨w1.heap.size + 1, 3, none⟩) zA).trans cb2⟩; have BB := Lib.hid hb; clear hb))
                have AO3 := Lib.hid ((BB.out.block _ zA).trans AO.out)
                have D3 := Lib.hid (bl_sp BB.out D.out.os D.out.tape D.out.output D.out.size D.out.block)
                have O3 := Lib.hid (World.ownsRow.kept O.out (row := none) (show wr.grownBy w3 none from ⟨BB.out.os, BB.out.tape, BB.out.output, BB.out.size, fun k hk _ => BB.out.block k hk⟩) (by simp [Value.ownBlock]))
                have zA3 := obj_lt AO3.out
                clear BB d3 ca cb2 O AO D zA
                cases hob : fnumOk (fW (lOf s) 3) with
                | false =>
                  have HE := Lib.hid (readS_bad (HS3.out (ok5_bad (l := lOf s) (i := 2) (by omega) hob)) (by omega))
                  have RO3 := Lib.hid ((D3.out.block _ zR).trans RO1.out)
                  have HSt := Lib.hid (run_storeVar_row (P := Tryz.prog) w3 w.heap.size 32 32 zEnt zEnt RO3.out (by rw [Tryz.sizeEnt]; rfl) rfl (by simp [zEnt, Value.oneCell']))
                  have B3 := Lib.hid (BW1.out.trans (D3.out.mono BW1.out.size))
                  clear hob O3 AO3
                  go_wp2_with ((with_reducible refine wpList_store_eq rfl 32 _ _ rfl ⟨w.heap.size, 0, none⟩ ?_ ?_ HSt.out ?_); rfl; rfl)
                  refine bodyPost_ret (results_cell4 rfl _ _ w.heap.size _ zEnt (0, 0) _ rfl (setRow_heap _ _ _ _ _ _ RO3.out) Tryz.underlying32 rfl (by rw [Tryz.sizeEnt]; rfl)) rfl ?_
                  rw [HE.out]
                  exact ⟨rfl, B3.out.trans (below_set (Nat.le_refl _) _)⟩
                | true =>
                  have HK : Hid (ok5 (lOf s) 3 = true) := Lib.hid (by rw [ok5, OK.out, hob]; rfl)
                  have sD := D3.out.size
                  clear hob
                  go_wp2_with (at_builtin; refine wpList_append_own_at _ rfl _ _ 100 rfl w1.heap.size 3 i0 (.int .i64 0) 1 8 Tryz.underlying100 hi0 hz0 hz1 hz2 rfl (by decide) _ _ _ rfl (World.ownsRow.alloc O3.out _) ⟨w3.heap.size, 0, none⟩ 1 1 [.int .i64 nv] rfl rfl ?c1 ?c2 ?c3 ?c4 ?c5 ?_)
                  case c1 => exact cell_one_new _ _ _
                  case c2 => intro u hu; simp at hu; subst hu; rfl
                  case c3 => simp only [maxLen]; omega
                  case c4 => omega
                  case c5 => simp; omega
                  · intro v4 w4 hown4 hgrow4 _ hob4
                    have O4 : Hid (w4.ownsRow w1.heap.size 3 1 v4 3 (nl (lOf s) 3)) := Lib.hid (by rw [HSU.out]; exact hown4)
                    have V4 : Hid (∃ gb cp, v4 = .slice (some ⟨gb, 0, none⟩) 3 cp ∧ gb ≠ w1.heap.size + 1) := Lib.hid (by
                      rcases hown4.2 with ⟨_, hn⟩ | ⟨g', cap', cur, rfl, _⟩
                      · omega
                      · refine ⟨g', cap', rfl, ?_⟩
                        rcases hob4 with h | h
                        · simp only [Value.ownBlock, Option.some.injEq] at h; omega
                        · simp only [Value.ownBlock, Option.some.injEq] at h; omega)
                    have A4 : Hid (w4.heap[w1.heap.size + 1]? = some (.cells #[.int .i64 100, .int .i64 108, .int .i64 116, .int .i64 124, .int .i64 136, .int .i64 148] 3 (0, 0))) := Lib.hid (by
                      rw [hgrow4.block _ (by simp; omega) (by simp [Value.ownBlock]; omega), ((Below.refl w3.heap.size w3).alloc (Nat.le_refl _) _).block _ zA3]
                      exact AO3.out)
                    have D4 : Hid (Below w1.heap.size w1 w4) := Lib.hid ((D3.out.alloc sD _).grown hgrow4 (by simp; omega) (fun b hb => (World.ownsRow.lt O3.out b hb).1))
                    clear hown4 hgrow4 hob4 O3 AO3 D3
                    go_wp2_with fail
                    go_roundw
                    case rel => exact ⟨3, by go_num, by omega, HK.out, O4.out, V4.out, A4.out, D4.out⟩
                    case measure => simp [intOf]
              · have HN := Lib.hid (fun w => num_spec (s.extract 124 136) w (by rw [ByteArray.size_extract]; omega) (by rw [ByteArray.size_extract]; omega))
                have HV : Hid (s.extract 124 136 = fW (lOf s) 4) := Lib.hid (fW_ext s 4 12 (by omega) rfl).symm
                have hfv : fnumv (s.extract 124 136) = fnumv (fW (lOf s) 4) := by rw [HV.out]
                have hfo : fnumOk (s.extract 124 136) = fnumOk (fW (lOf s) 4) := by rw [HV.out]
                rw [hfv, hfo] at HN
                have HSU := Lib.hid (nl_succ (lOf s) 3)
                generalize fnumv (fW (lOf s) 4) = nv at HN HSU
                clear hfv hfo HV
                have cb : (136 : Int) ≤ (s.size : Int) := by omega
                have hA0 : wr.cell? ⟨w1.heap.size + 1, 3, none⟩ = some (.int .i64 124) ∧ wr.cell? ⟨w1.heap.size + 1, 4, none⟩ = some (.int .i64 136) := ⟨by rw [cell_of_row _ _ _ _ _ _ AO.out]; rfl, by rw [cell_of_row _ _ _ _ _ _ AO.out]; rfl⟩
                have zA := obj_lt AO.out
                obtain ⟨ca, cb2⟩ := hA0
                rw [show ((3 : Nat) : Int) = 3 from rfl]
                go_wp2_with fail
                have hw : IntKind.i64.wrap ((3 : Int) + 1) = 4 := by decide
                have hw2 : IntKind.i64.wrap (4 : Int) = 4 := by decide
                go_region_held3 (fun w' => w'.cell? ⟨w1.heap.size + 1, 3, none⟩ = some (.int .i64 124) ∧ w'.cell? ⟨w1.heap.size + 1, 4, none⟩ = some (.int .i64 136)) (first | assumption | exact ca | exact cb2 | exact ⟨ca, cb2⟩) (first | (go_at_call 64; refine (HN.out _).mono ?_; rintro e w3 ⟨rfl, hb⟩; have d3 : w3.cell? ⟨w1.heap.size + 1, 3, none⟩ = some (.int .i64 124) ∧ w3.cell? ⟨w1.heap.size + 1, 4, none⟩ = some (.int .i64 136) := ⟨(hb.cell (p := ⟨w1.heap.size + 1, 3, none⟩) zA).trans ca, (hb.cell (p := ⟨w1.heap.size + 1, 4, none⟩) zA).trans cb2⟩; have BB := Lib.hid hb; clear hb))
                have AO3 := Lib.hid ((BB.out.block _ zA).trans AO.out)
                have D3 := Lib.hid (bl_sp BB.out D.out.os D.out.tape D.out.output D.out.size D.out.block)
                have O3 := Lib.hid (World.ownsRow.kept O.out (row := none) (show wr.grownBy w3 none from ⟨BB.out.os, BB.out.tape, BB.out.output, BB.out.size, fun k hk _ => BB.out.block k hk⟩) (by simp [Value.ownBlock]))
                have zA3 := obj_lt AO3.out
                clear BB d3 ca cb2 O AO D zA
                cases hob : fnumOk (fW (lOf s) 4) with
                | false =>
                  have HE := Lib.hid (readS_bad (HS3.out (ok5_bad (l := lOf s) (i := 3) (by omega) hob)) (by omega))
                  have RO3 := Lib.hid ((D3.out.block _ zR).trans RO1.out)
                  have HSt := Lib.hid (run_storeVar_row (P := Tryz.prog) w3 w.heap.size 32 32 zEnt zEnt RO3.out (by rw [Tryz.sizeEnt]; rfl) rfl (by simp [zEnt, Value.oneCell']))
                  have B3 := Lib.hid (BW1.out.trans (D3.out.mono BW1.out.size))
                  clear hob O3 AO3
                  go_wp2_with ((with_reducible refine wpList_store_eq rfl 32 _ _ rfl ⟨w.heap.size, 0, none⟩ ?_ ?_ HSt.out ?_); rfl; rfl)
                  refine bodyPost_ret (results_cell4 rfl _ _ w.heap.size _ zEnt (0, 0) _ rfl (setRow_heap _ _ _ _ _ _ RO3.out) Tryz.underlying32 rfl (by rw [Tryz.sizeEnt]; rfl)) rfl ?_
                  rw [HE.out]
                  exact ⟨rfl, B3.out.trans (below_set (Nat.le_refl _) _)⟩
                | true =>
                  have HK : Hid (ok5 (lOf s) 4 = true) := Lib.hid (by rw [ok5, OK.out, hob]; rfl)
                  have sD := D3.out.size
                  clear hob
                  go_wp2_with (at_builtin; refine wpList_append_own_at _ rfl _ _ 100 rfl w1.heap.size 3 i0 (.int .i64 0) 1 8 Tryz.underlying100 hi0 hz0 hz1 hz2 rfl (by decide) _ _ _ rfl (World.ownsRow.alloc O3.out _) ⟨w3.heap.size, 0, none⟩ 1 1 [.int .i64 nv] rfl rfl ?c1 ?c2 ?c3 ?c4 ?c5 ?_)
                  case c1 => exact cell_one_new _ _ _
                  case c2 => intro u hu; simp at hu; subst hu; rfl
                  case c3 => simp only [maxLen]; omega
                  case c4 => omega
                  case c5 => simp; omega
                  · intro v4 w4 hown4 hgrow4 _ hob4
                    have O4 : Hid (w4.ownsRow w1.heap.size 3 1 v4 4 (nl (lOf s) 4)) := Lib.hid (by rw [HSU.out]; exact hown4)
                    have V4 : Hid (∃ gb cp, v4 = .slice (some ⟨gb, 0, none⟩) 4 cp ∧ gb ≠ w1.heap.size + 1) := Lib.hid (by
                      rcases hown4.2 with ⟨_, hn⟩ | ⟨g', cap', cur, rfl, _⟩
                      · omega
                      · refine ⟨g', cap', rfl, ?_⟩
                        rcases hob4 with h | h
                        · simp only [Value.ownBlock, Option.some.injEq] at h; omega
                        · simp only [Value.ownBlock, Option.some.injEq] at h; omega)
                    have A4 : Hid (w4.heap[w1.heap.size + 1]? = some (.cells #[.int .i64 100, .int .i64 108, .int .i64 116, .int .i64 124, .int .i64 136, .int .i64 148] 3 (0, 0))) := Lib.hid (by
                      rw [hgrow4.block _ (by simp; omega) (by simp [Value.ownBlock]; omega), ((Below.refl w3.heap.size w3).alloc (Nat.le_refl _) _).block _ zA3]
                      exact AO3.out)
                    have D4 : Hid (Below w1.heap.size w1 w4) := Lib.hid ((D3.out.alloc sD _).grown hgrow4 (by simp; omega) (fun b hb => (World.ownsRow.lt O3.out b hb).1))
                    clear hown4 hgrow4 hob4 O3 AO3 D3
                    go_wp2_with fail
                    go_roundw
                    case rel => exact ⟨4, by go_num, by omega, HK.out, O4.out, V4.out, A4.out, D4.out⟩
                    case measure => simp [intOf]
              · have HN := Lib.hid (fun w => num_spec (s.extract 136 148) w (by rw [ByteArray.size_extract]; omega) (by rw [ByteArray.size_extract]; omega))
                have HV : Hid (s.extract 136 148 = fW (lOf s) 5) := Lib.hid (fW_ext s 5 12 (by omega) rfl).symm
                have hfv : fnumv (s.extract 136 148) = fnumv (fW (lOf s) 5) := by rw [HV.out]
                have hfo : fnumOk (s.extract 136 148) = fnumOk (fW (lOf s) 5) := by rw [HV.out]
                rw [hfv, hfo] at HN
                have HSU := Lib.hid (nl_succ (lOf s) 4)
                generalize fnumv (fW (lOf s) 5) = nv at HN HSU
                clear hfv hfo HV
                have cb : (148 : Int) ≤ (s.size : Int) := by omega
                have hA0 : wr.cell? ⟨w1.heap.size + 1, 4, none⟩ = some (.int .i64 136) ∧ wr.cell? ⟨w1.heap.size + 1, 5, none⟩ = some (.int .i64 148) := ⟨by rw [cell_of_row _ _ _ _ _ _ AO.out]; rfl, by rw [cell_of_row _ _ _ _ _ _ AO.out]; rfl⟩
                have zA := obj_lt AO.out
                obtain ⟨ca, cb2⟩ := hA0
                rw [show ((4 : Nat) : Int) = 4 from rfl]
                go_wp2_with fail
                have hw : IntKind.i64.wrap ((4 : Int) + 1) = 5 := by decide
                have hw2 : IntKind.i64.wrap (5 : Int) = 5 := by decide
                go_region_held3 (fun w' => w'.cell? ⟨w1.heap.size + 1, 4, none⟩ = some (.int .i64 136) ∧ w'.cell? ⟨w1.heap.size + 1, 5, none⟩ = some (.int .i64 148)) (first | assumption | exact ca | exact cb2 | exact ⟨ca, cb2⟩) (first | (go_at_call 64; refine (HN.out _).mono ?_; rintro e w3 ⟨rfl, hb⟩; have d3 : w3.cell? ⟨w1.heap.size + 1, 4, none⟩ = some (.int .i64 136) ∧ w3.cell? ⟨w1.heap.size + 1, 5, none⟩ = some (.int .i64 148) := ⟨(hb.cell (p := ⟨w1.heap.size + 1, 4, none⟩) zA).trans ca, (hb.cell (p := ⟨w1.heap.size + 1, 5, none⟩) zA).trans cb2⟩; have BB := Lib.hid hb; clear hb))
                have AO3 := Lib.hid ((BB.out.block _ zA).trans AO.out)
                have D3 := Lib.hid (bl_sp BB.out D.out.os D.out.tape D.out.output D.out.size D.out.block)
                have O3 := Lib.hid (World.ownsRow.kept O.out (row := none) (show wr.grownBy w3 none from ⟨BB.out.os, BB.out.tape, BB.out.output, BB.out.size, fun k hk _ => BB.out.block k hk⟩) (by simp [Value.ownBlock]))
                have zA3 := obj_lt AO3.out
                clear BB d3 ca cb2 O AO D zA
                cases hob : fnumOk (fW (lOf s) 5) with
                | false =>
                  have HE := Lib.hid (readS_bad (HS3.out (ok5_bad (l := lOf s) (i := 4) (by omega) hob)) (by omega))
                  have RO3 := Lib.hid ((D3.out.block _ zR).trans RO1.out)
                  have HSt := Lib.hid (run_storeVar_row (P := Tryz.prog) w3 w.heap.size 32 32 zEnt zEnt RO3.out (by rw [Tryz.sizeEnt]; rfl) rfl (by simp [zEnt, Value.oneCell']))
                  have B3 := Lib.hid (BW1.out.trans (D3.out.mono BW1.out.size))
                  clear hob O3 AO3
                  go_wp2_with ((with_reducible refine wpList_store_eq rfl 32 _ _ rfl ⟨w.heap.size, 0, none⟩ ?_ ?_ HSt.out ?_); rfl; rfl)
                  refine bodyPost_ret (results_cell4 rfl _ _ w.heap.size _ zEnt (0, 0) _ rfl (setRow_heap _ _ _ _ _ _ RO3.out) Tryz.underlying32 rfl (by rw [Tryz.sizeEnt]; rfl)) rfl ?_
                  rw [HE.out]
                  exact ⟨rfl, B3.out.trans (below_set (Nat.le_refl _) _)⟩
                | true =>
                  have HK : Hid (ok5 (lOf s) 5 = true) := Lib.hid (by rw [ok5, OK.out, hob]; rfl)
                  have sD := D3.out.size
                  clear hob
                  go_wp2_with (at_builtin; refine wpList_append_own_at _ rfl _ _ 100 rfl w1.heap.size 3 i0 (.int .i64 0) 1 8 Tryz.underlying100 hi0 hz0 hz1 hz2 rfl (by decide) _ _ _ rfl (World.ownsRow.alloc O3.out _) ⟨w3.heap.size, 0, none⟩ 1 1 [.int .i64 nv] rfl rfl ?c1 ?c2 ?c3 ?c4 ?c5 ?_)
                  case c1 => exact cell_one_new _ _ _
                  case c2 => intro u hu; simp at hu; subst hu; rfl
                  case c3 => simp only [maxLen]; omega
                  case c4 => omega
                  case c5 => simp; omega
                  · intro v4 w4 hown4 hgrow4 _ hob4
                    have O4 : Hid (w4.ownsRow w1.heap.size 3 1 v4 5 (nl (lOf s) 5)) := Lib.hid (by rw [HSU.out]; exact hown4)
                    have V4 : Hid (∃ gb cp, v4 = .slice (some ⟨gb, 0, none⟩) 5 cp ∧ gb ≠ w1.heap.size + 1) := Lib.hid (by
                      rcases hown4.2 with ⟨_, hn⟩ | ⟨g', cap', cur, rfl, _⟩
                      · omega
                      · refine ⟨g', cap', rfl, ?_⟩
                        rcases hob4 with h | h
                        · simp only [Value.ownBlock, Option.some.injEq] at h; omega
                        · simp only [Value.ownBlock, Option.some.injEq] at h; omega)
                    have A4 : Hid (w4.heap[w1.heap.size + 1]? = some (.cells #[.int .i64 100, .int .i64 108, .int .i64 116, .int .i64 124, .int .i64 136, .int .i64 148] 3 (0, 0))) := Lib.hid (by
                      rw [hgrow4.block _ (by simp; omega) (by simp [Value.ownBlock]; omega), ((Below.refl w3.heap.size w3).alloc (Nat.le_refl _) _).block _ zA3]
                      exact AO3.out)
                    have D4 : Hid (Below w1.heap.size w1 w4) := Lib.hid ((D3.out.alloc sD _).grown hgrow4 (by simp; omega) (fun b hb => (World.ownsRow.lt O3.out b hb).1))
                    clear hown4 hgrow4 hob4 O3 AO3 D3
                    go_wp2_with fail
                    go_roundw
                    case rel => exact ⟨5, by go_num, by omega, HK.out, O4.out, V4.out, A4.out, D4.out⟩
                    case measure => simp [intOf]
        · have HE := Lib.hid (readS_bad (s := s) (c := 2) (HR2.out (by cases h : sumOkv s with | false => rfl | true => exact absurd (HQ.out.1 h).2.2 h3)) (by omega))
          have q3 : (n6 != headSumv s) = true := by simp [h3]
          clear HQ HR2 HR3 HR0 h2 h3
          generalize headSumv s = hsv at *
          go_enter Tryz.func37, Tryz.ntmps37
          go_wp2_with fail
          refine (H1.out _).mono ?_
          rintro e w1 ⟨rfl, rfl⟩
          go_wp2_with fail
          refine (H2.out _).mono ?_
          rintro e w1 ⟨rfl, hb⟩
          obtain ⟨R1, B1⟩ := BAD.out w1 hb
          have HSt := Lib.hid (run_storeVar_row (P := Tryz.prog) w1 w.heap.size 32 32 zEnt zEnt R1 (by rw [Tryz.sizeEnt]; rfl) rfl (by simp [zEnt, Value.oneCell']))
          clear hb
          go_wp2_with ((with_reducible refine wpList_store_eq rfl 32 _ _ rfl ⟨w.heap.size, 0, none⟩ ?_ ?_ HSt.out ?_); rfl; rfl)
          refine bodyPost_ret (results_cell4 rfl _ _ w.heap.size _ zEnt (0, 0) _ rfl (setRow_heap _ _ _ _ _ _ R1) Tryz.underlying32 rfl (by rw [Tryz.sizeEnt]; rfl)) rfl ?_
          rw [HE.out]
          exact ⟨rfl, B1.trans (below_set (Nat.le_refl _) _)⟩
      · have HE := Lib.hid (readS_bad (s := s) (c := 2) (HR2.out (by cases h : sumOkv s with | false => rfl | true => exact absurd (HQ.out.1 h).2.1 h2)) (by omega))
        have q2 := lit_ne (s := s.extract 154 156) (l := [0, 32]) h2
        clear HQ HR2 HR3 HR0 h2
        go_enter Tryz.func37, Tryz.ntmps37
        go_wp2_with fail
        refine (H1.out _).mono ?_
        rintro e w1 ⟨rfl, rfl⟩
        go_wp2_with ((with_reducible refine wpList_store_eq rfl 32 _ _ rfl ⟨w.heap.size, 0, none⟩ ?_ ?_ HSt0.out ?_); rfl; rfl)
        refine bodyPost_ret (results_cell4 rfl _ _ w.heap.size _ zEnt (0, 0) _ rfl R0.out Tryz.underlying32 rfl (by rw [Tryz.sizeEnt]; rfl)) rfl ?_
        rw [HE.out]
        exact ⟨rfl, B0.out⟩
end Go.Proofs.YtancidbbkoeokaaGreatDoor
