/- The walk of impl.GetNew through its five steps, for whatever they answer. -/
import Derived.Test.YtcnmbolmgifgfaaNrO
import Derived.Test.YtcnmbolmgifgfaaRegU
import Derived.Test.YtcnmbolmgifgfaaRegSl
import Derived.Test.YtcnmbolmgifgfaaGetCdM
import Derived.Deep.WholeRow
namespace Go.Proofs.Ytcnmbolmgifgfaa
open Go.ChangeShapes Go.WideShapes Go.ChangeAt Go.RowKit Go.Deep

theorem heap_newN (w : World) (o : Obj) (g : Nat) (hg : g = w.heap.size) : (w.alloc o).heap[g]? = some o := by subst hg; exact heap_lastG w o
theorem wpList_load_eqN {P : Program} {ops : Array Oper} {rest : List Oper} {o : Oper} {a : Act} {w : World} {Q : Exit → Act → World → Prop} (hgd : o.guard = none) (ty : TypeId) (x : Operand) (ho : o.op = .load ty x)
    (g : Addr) (hx : a.eval x = .pointer (some g)) {v : Value} (hr : (loadVar ty g).run P w = .ok v w) (h : wpList P ops Q rest (a.put o.dst v) w) : wpList P ops Q (o :: rest) a w :=
  wpList_plain hgd fun _ hK => by
    unfold Oper.wp execOp
    simp only [ho, hx, Instr.loadAt, Instr.sureAddr, Sem.run_bind, Sem.run_pure, Result.andThen_ok, hr]
    exact hK _ _ h
theorem wpList_store_eqN {P : Program} {ops : Array Oper} {rest : List Oper} {o : Oper} {a : Act} {w w' : World} {Q : Exit → Act → World → Prop} (hgd : o.guard = none) (ty : TypeId) (x y : Operand) (ho : o.op = .store ty x y)
    (g : Addr) (hx : a.eval x = .pointer (some g)) {v : Value} (hy : a.eval y = v) (hr : (storeVar ty g v).run P w = .ok () w') (h : wpList P ops Q rest (a.put o.dst undef) w') : wpList P ops Q (o :: rest) a w :=
  wpList_plain hgd fun _ hK => by
    unfold Oper.wp execOp
    simp only [ho, hx, hy, Instr.storeAt, Instr.sureAddr, Sem.run_bind, Sem.run_pure, Result.andThen_ok, hr]
    exact hK _ _ h
theorem Try.sizeNr : (Try.prog.info? 51).map (·.size) = some 20 := by kernel_rfl
def NZ20 : Array Value := #[.int .i64 0, .int .i64 0, .int .i64 0, .int .i64 0, .int .i64 0, .int .i64 0, .string ⟨#[]⟩, .string ⟨#[]⟩, .int .i64 0, .int .i64 0, .int .i64 0, .int .i64 0, .int .i64 0, .int .i64 0, .int .i64 0, .bool false, .string ⟨#[]⟩, .string ⟨#[]⟩, .string ⟨#[]⟩, .string ⟨#[]⟩]
theorem idx5 (a0 a1 a2 a3 a4 : Value) (w : World) : ((Instr.index 53 (.agg #[a0, a1, a2, a3, a4]) (.int .i64 0)).run Try.prog w = .ok a0 w ∧ (Instr.index 53 (.agg #[a0, a1, a2, a3, a4]) (.int .i64 1)).run Try.prog w = .ok a1 w) ∧ ((Instr.index 53 (.agg #[a0, a1, a2, a3, a4]) (.int .i64 2)).run Try.prog w = .ok a2 w ∧ (Instr.index 53 (.agg #[a0, a1, a2, a3, a4]) (.int .i64 3)).run Try.prog w = .ok a3 w) ∧ (Instr.index 53 (.agg #[a0, a1, a2, a3, a4]) (.int .i64 4)).run Try.prog w = .ok a4 w := by
  have hu := Try.underlying53
  have he := Try.underlying52
  have hsz : ∀ w, (sizeOf 52).run Try.prog w = .ok 1 w := fun w => by go_simp
  refine ⟨⟨?_, ?_⟩, ⟨?_, ?_⟩, ?_⟩ <;> simp [Instr.index, run_underlying hu, asIntOf, part, isAgg, run_underlying he, hsz, go_sem]
theorem Try.sizeF5 : (Try.prog.info? 53).map (·.size) = some 5 := by kernel_rfl
def fun5 (g : Nat) : Array Value := #[.func (.func 32) #[.pointer (some ⟨g, 0, none⟩)] #[], .func (.func 33) #[.pointer (some ⟨g, 0, none⟩)] #[], .func (.func 34) #[.pointer (some ⟨g, 0, none⟩)] #[], .func (.func 35) #[.pointer (some ⟨g, 0, none⟩)] #[], .func (.func 36) #[.pointer (some ⟨g, 0, none⟩)] #[]]
set_option maxHeartbeats 1600000 in
set_option maxRecDepth 8000 in
theorem getNew_walk (s : ByteArray) (j : Nat) (crc : Bool) (x1 x2 x3 x4 x5 : Nr) (c1 c2 c3 c4 c5 : Int) (V : Value) (w : World) (hs : s.size ≤ 1048576) (hj : j + 110 ≤ s.size)
    (HC1 : ∀ g w, NrO w g ⟨0, 0, 0, 0, 0, 0, ⟨#[]⟩, ⟨#[]⟩, 0, 0, 0, 0, 0, 0, 0, crc, s.extract j s.size, ⟨#[]⟩, ⟨#[]⟩, ⟨#[]⟩⟩ → Calls Try.prog 32 #[.pointer (some ⟨g, 0, none⟩)] w fun e w' => e = .returned (.int .i64 c1) ∧ (c1 = 0 → NrO w' g x1) ∧ Below g w w')
    (h1 : ¬ c1 = 0 → V = bdV j c1)
    (HC2 : ∀ g w, NrO w g x1 → Calls Try.prog 33 #[.pointer (some ⟨g, 0, none⟩)] w fun e w' => e = .returned (.int .i64 c2) ∧ (c2 = 0 → NrO w' g x2) ∧ Below g w w')
    (h2 : c1 = 0 → ¬ c2 = 0 → V = bdV j c2)
    (HC3 : ∀ g w, NrO w g x2 → Calls Try.prog 34 #[.pointer (some ⟨g, 0, none⟩)] w fun e w' => e = .returned (.int .i64 c3) ∧ (c3 = 0 → NrO w' g x3) ∧ Below g w w')
    (h3 : c1 = 0 → c2 = 0 → ¬ c3 = 0 → V = bdV j c3)
    (HC4 : ∀ g w, NrO w g x3 → Calls Try.prog 35 #[.pointer (some ⟨g, 0, none⟩)] w fun e w' => e = .returned (.int .i64 c4) ∧ (c4 = 0 → NrO w' g x4) ∧ Below g w w')
    (h4 : c1 = 0 → c2 = 0 → c3 = 0 → ¬ c4 = 0 → V = bdV j c4)
    (HC5 : ∀ g w, NrO w g x4 → Calls Try.prog 36 #[.pointer (some ⟨g, 0, none⟩)] w fun e w' => e = .returned (.int .i64 c5) ∧ (c5 = 0 → NrO w' g x5) ∧ Below g w w')
    (h5 : c1 = 0 → c2 = 0 → c3 = 0 → c4 = 0 → ¬ c5 = 0 → V = bdV j c5)
    (hrs : x5.rest.size ≤ 1048576)
    (h6 : c1 = 0 → c2 = 0 → c3 = 0 → c4 = 0 → c5 = 0 → V = .tuple #[.agg (Card.cells ⟨x5.n0, x5.n1, x5.n2, x5.n3, x5.n4, x5.n5, x5.pa, x5.da⟩).toArray, .int .i64 ((s.size : Int) - (x5.rest.size : Int)), .int .i64 0]) :
    Calls Try.prog 18 #[.string s, .int .i64 (j : Int), .bool crc] w fun e w' => e = .returned V ∧ Below w.heap.size w w' := by
  have hmf : ∀ (fn : Fn) (first cap : Array Value) (w : World), (Instr.makeFunc fn first cap).run Try.prog w = .ok (.func fn first cap) w := fun _ _ _ _ => rfl
  have h110 : ¬ (s.size : Int) - (j : Int) < 110 := by omega
  have hS : ∀ w, (Instr.slice 9 (.string s) (some (.int .i64 (j : Int))) none none).run Try.prog w = .ok (.string (s.extract j s.size)) w := fun w => by
    have h1 := run_slice_string_l (P := Try.prog) (w := w) (t := 9) (s := s) Try.underlying9 .i64 (j : Int) (by omega) (by omega)
    rw [Int.toNat_natCast] at h1
    exact h1
  replace HC1 := Lib.hid HC1
  replace h1 := Lib.hid h1
  replace HC2 := Lib.hid HC2
  replace h2 := Lib.hid h2
  replace HC3 := Lib.hid HC3
  replace h3 := Lib.hid h3
  replace HC4 := Lib.hid HC4
  replace h4 := Lib.hid h4
  replace HC5 := Lib.hid HC5
  replace h5 := Lib.hid h5
  replace h6 := Lib.hid h6
  have HRs : Hid ((s.size : Int) - (x5.rest.size : Int) ≤ 1048576 ∧ -1048576 ≤ (s.size : Int) - (x5.rest.size : Int)) := Lib.hid (by omega)
  clear hrs
  generalize s.extract j s.size = r0 at hS HC1
  go_enter Try.func18, Try.ntmps18
  go_upto_region 3 with fail
  generalize hw0 : World.alloc w _ = w0
  have R0 : Hid (CardO w0 w.heap.size zeroC) := Lib.hid (by rw [← hw0]; exact CardO.new w zeroC)
  have B0 : Hid (Below w.heap.size w w0) := Lib.hid (by rw [← hw0]; exact (Below.refl _ _).alloc (Nat.le_refl _) _)
  have HS9 : Hid (w0.heap.size = w.heap.size + 1) := Lib.hid (by rw [← hw0]; simp)
  clear hw0
  have HS0 := Lib.hid (run_storeVar_new (P := Try.prog) w0 51 NZ20 #[.int .i64 0, .int .i64 0, .int .i64 0, .int .i64 0, .int .i64 0, .int .i64 0, .string ⟨#[]⟩, .string ⟨#[]⟩, .int .i64 0, .int .i64 0, .int .i64 0, .int .i64 0, .int .i64 0, .int .i64 0, .int .i64 0, .bool crc, .string r0, .string ⟨#[]⟩, .string ⟨#[]⟩, .string ⟨#[]⟩] (by rw [Try.sizeNr]; rfl) rfl (by simp [Value.oneCell']))
  have X : Hid (NrO (w0.alloc (.cells #[.int .i64 0, .int .i64 0, .int .i64 0, .int .i64 0, .int .i64 0, .int .i64 0, .string ⟨#[]⟩, .string ⟨#[]⟩, .int .i64 0, .int .i64 0, .int .i64 0, .int .i64 0, .int .i64 0, .int .i64 0, .int .i64 0, .bool crc, .string r0, .string ⟨#[]⟩, .string ⟨#[]⟩, .string ⟨#[]⟩] 51)) w0.heap.size ⟨0, 0, 0, 0, 0, 0, ⟨#[]⟩, ⟨#[]⟩, 0, 0, 0, 0, 0, 0, 0, crc, r0, ⟨#[]⟩, ⟨#[]⟩, ⟨#[]⟩⟩) := Lib.hid (heap_lastG _ _)
  have R : Hid (CardO (w0.alloc (.cells #[.int .i64 0, .int .i64 0, .int .i64 0, .int .i64 0, .int .i64 0, .int .i64 0, .string ⟨#[]⟩, .string ⟨#[]⟩, .int .i64 0, .int .i64 0, .int .i64 0, .int .i64 0, .int .i64 0, .int .i64 0, .int .i64 0, .bool crc, .string r0, .string ⟨#[]⟩, .string ⟨#[]⟩, .string ⟨#[]⟩] 51)) w.heap.size zeroC) := Lib.hid (R0.out.below ((Below.refl w0.heap.size w0).alloc (Nat.le_refl _) _) (by have := HS9.out; omega))
  have B : Hid (Below w.heap.size w (w0.alloc (.cells #[.int .i64 0, .int .i64 0, .int .i64 0, .int .i64 0, .int .i64 0, .int .i64 0, .string ⟨#[]⟩, .string ⟨#[]⟩, .int .i64 0, .int .i64 0, .int .i64 0, .int .i64 0, .int .i64 0, .int .i64 0, .int .i64 0, .bool crc, .string r0, .string ⟨#[]⟩, .string ⟨#[]⟩, .string ⟨#[]⟩] 51))) := Lib.hid (B0.out.alloc (by have := HS9.out; omega) _)
  have HS8 : Hid ((w0.alloc (.cells #[.int .i64 0, .int .i64 0, .int .i64 0, .int .i64 0, .int .i64 0, .int .i64 0, .string ⟨#[]⟩, .string ⟨#[]⟩, .int .i64 0, .int .i64 0, .int .i64 0, .int .i64 0, .int .i64 0, .int .i64 0, .int .i64 0, .bool crc, .string r0, .string ⟨#[]⟩, .string ⟨#[]⟩, .string ⟨#[]⟩] 51)).heap.size = w0.heap.size + 1) := Lib.hid (by simp)
  clear R0 B0
  go_upto_region 4 with ((with_reducible refine wpList_store_eqN rfl 51 _ _ rfl ⟨w0.heap.size, 0, none⟩ ?_ ?_ HS0.out ?_); rfl; rfl)
  generalize w0.alloc (.cells #[.int .i64 0, .int .i64 0, .int .i64 0, .int .i64 0, .int .i64 0, .int .i64 0, .string ⟨#[]⟩, .string ⟨#[]⟩, .int .i64 0, .int .i64 0, .int .i64 0, .int .i64 0, .int .i64 0, .int .i64 0, .int .i64 0, .bool crc, .string r0, .string ⟨#[]⟩, .string ⟨#[]⟩, .string ⟨#[]⟩] 51) = w1 at HS8 X R B ⊢
  clear HS0
  have HSt := Lib.hid (run_storeVar_new (P := Try.prog) w1 53 #[.nilFunc, .nilFunc, .nilFunc, .nilFunc, .nilFunc] #[.func (.func 32) #[.pointer (some ⟨w0.heap.size, 0, none⟩)] #[], .func (.func 33) #[.pointer (some ⟨w0.heap.size, 0, none⟩)] #[], .func (.func 34) #[.pointer (some ⟨w0.heap.size, 0, none⟩)] #[], .func (.func 35) #[.pointer (some ⟨w0.heap.size, 0, none⟩)] #[], .func (.func 36) #[.pointer (some ⟨w0.heap.size, 0, none⟩)] #[]] (by rw [Try.sizeF5]; rfl) rfl (by simp [Value.oneCell']))
  have HLd := Lib.hid (run_loadVar_row (P := Try.prog) (w1.alloc (.cells #[.func (.func 32) #[.pointer (some ⟨w0.heap.size, 0, none⟩)] #[], .func (.func 33) #[.pointer (some ⟨w0.heap.size, 0, none⟩)] #[], .func (.func 34) #[.pointer (some ⟨w0.heap.size, 0, none⟩)] #[], .func (.func 35) #[.pointer (some ⟨w0.heap.size, 0, none⟩)] #[], .func (.func 36) #[.pointer (some ⟨w0.heap.size, 0, none⟩)] #[]] 53)) w1.heap.size 53 53 _ (0, 0) _ (heap_lastG _ _) Try.underlying53 rfl (by rw [Try.sizeF5]; rfl))
  go_wp2_with (first | ((with_reducible refine wpList_store_eqN rfl 53 _ _ rfl ⟨w1.heap.size, 0, none⟩ ?_ ?_ HSt.out ?_); rfl; rfl) | ((with_reducible refine wpList_load_eqN rfl 53 _ rfl ⟨w1.heap.size, 0, none⟩ ?_ HLd.out ?_); rfl))

  have R1 : Hid (CardO (w1.alloc (.cells #[.func (.func 32) #[.pointer (some ⟨w0.heap.size, 0, none⟩)] #[], .func (.func 33) #[.pointer (some ⟨w0.heap.size, 0, none⟩)] #[], .func (.func 34) #[.pointer (some ⟨w0.heap.size, 0, none⟩)] #[], .func (.func 35) #[.pointer (some ⟨w0.heap.size, 0, none⟩)] #[], .func (.func 36) #[.pointer (some ⟨w0.heap.size, 0, none⟩)] #[]] 53)) w.heap.size zeroC) := Lib.hid (R.out.below ((Below.refl w1.heap.size w1).alloc (Nat.le_refl _) _) (by have := HS9.out; have := HS8.out; omega))
  have X1 := Lib.hid (X.out.below ((Below.refl w1.heap.size w1).alloc (Nat.le_refl _) (.cells #[.func (.func 32) #[.pointer (some ⟨w0.heap.size, 0, none⟩)] #[], .func (.func 33) #[.pointer (some ⟨w0.heap.size, 0, none⟩)] #[], .func (.func 34) #[.pointer (some ⟨w0.heap.size, 0, none⟩)] #[], .func (.func 35) #[.pointer (some ⟨w0.heap.size, 0, none⟩)] #[], .func (.func 36) #[.pointer (some ⟨w0.heap.size, 0, none⟩)] #[]] 53)) (by have := HS8.out; omega))
  have B1 : Hid (Below w.heap.size w (w1.alloc (.cells #[.func (.func 32) #[.pointer (some ⟨w0.heap.size, 0, none⟩)] #[], .func (.func 33) #[.pointer (some ⟨w0.heap.size, 0, none⟩)] #[], .func (.func 34) #[.pointer (some ⟨w0.heap.size, 0, none⟩)] #[], .func (.func 35) #[.pointer (some ⟨w0.heap.size, 0, none⟩)] #[], .func (.func 36) #[.pointer (some ⟨w0.heap.size, 0, none⟩)] #[]] 53))) := Lib.hid (B.out.alloc (by have := HS9.out; have := HS8.out; omega) _)
  clear R X B HSt HLd
  generalize w1.alloc (.cells #[.func (.func 32) #[.pointer (some ⟨w0.heap.size, 0, none⟩)] #[], .func (.func 33) #[.pointer (some ⟨w0.heap.size, 0, none⟩)] #[], .func (.func 34) #[.pointer (some ⟨w0.heap.size, 0, none⟩)] #[], .func (.func 35) #[.pointer (some ⟨w0.heap.size, 0, none⟩)] #[], .func (.func 36) #[.pointer (some ⟨w0.heap.size, 0, none⟩)] #[]] 53) = wa0 at R1 X1 B1 ⊢
  have hIx0 := fun w => (idx5 (.func (.func 32) #[.pointer (some ⟨w0.heap.size, 0, none⟩)] #[]) (.func (.func 33) #[.pointer (some ⟨w0.heap.size, 0, none⟩)] #[]) (.func (.func 34) #[.pointer (some ⟨w0.heap.size, 0, none⟩)] #[]) (.func (.func 35) #[.pointer (some ⟨w0.heap.size, 0, none⟩)] #[]) (.func (.func 36) #[.pointer (some ⟨w0.heap.size, 0, none⟩)] #[]) w).1.1
  have hIx1 := fun w => (idx5 (.func (.func 32) #[.pointer (some ⟨w0.heap.size, 0, none⟩)] #[]) (.func (.func 33) #[.pointer (some ⟨w0.heap.size, 0, none⟩)] #[]) (.func (.func 34) #[.pointer (some ⟨w0.heap.size, 0, none⟩)] #[]) (.func (.func 35) #[.pointer (some ⟨w0.heap.size, 0, none⟩)] #[]) (.func (.func 36) #[.pointer (some ⟨w0.heap.size, 0, none⟩)] #[]) w).1.2
  have hIx2 := fun w => (idx5 (.func (.func 32) #[.pointer (some ⟨w0.heap.size, 0, none⟩)] #[]) (.func (.func 33) #[.pointer (some ⟨w0.heap.size, 0, none⟩)] #[]) (.func (.func 34) #[.pointer (some ⟨w0.heap.size, 0, none⟩)] #[]) (.func (.func 35) #[.pointer (some ⟨w0.heap.size, 0, none⟩)] #[]) (.func (.func 36) #[.pointer (some ⟨w0.heap.size, 0, none⟩)] #[]) w).2.1.1
  have hIx3 := fun w => (idx5 (.func (.func 32) #[.pointer (some ⟨w0.heap.size, 0, none⟩)] #[]) (.func (.func 33) #[.pointer (some ⟨w0.heap.size, 0, none⟩)] #[]) (.func (.func 34) #[.pointer (some ⟨w0.heap.size, 0, none⟩)] #[]) (.func (.func 35) #[.pointer (some ⟨w0.heap.size, 0, none⟩)] #[]) (.func (.func 36) #[.pointer (some ⟨w0.heap.size, 0, none⟩)] #[]) w).2.1.2
  have hIx4 := fun w => (idx5 (.func (.func 32) #[.pointer (some ⟨w0.heap.size, 0, none⟩)] #[]) (.func (.func 33) #[.pointer (some ⟨w0.heap.size, 0, none⟩)] #[]) (.func (.func 34) #[.pointer (some ⟨w0.heap.size, 0, none⟩)] #[]) (.func (.func 35) #[.pointer (some ⟨w0.heap.size, 0, none⟩)] #[]) (.func (.func 36) #[.pointer (some ⟨w0.heap.size, 0, none⟩)] #[]) w).2.2
  refine wp_loop_rounds 6 ?_
  rw [rounds_succ]
  go_wp2_with fail
  refine (HC1.out _ _ X1.out).mono ?_
  rintro e wa1 ⟨rfl, hx, hb⟩
  have R2 : Hid (CardO wa1 w.heap.size zeroC) := Lib.hid (R1.out.below hb (by have := HS9.out; omega))
  have B2 : Hid (Below w.heap.size w wa1) := Lib.hid (B1.out.trans (hb.mono (by have := HS9.out; omega)))
  clear hb HC1 R1 B1 X1
  by_cases q1 : ¬ c1 = 0
  · have HF := Lib.hid (h1.out  q1)
    have e1 : (c1 != 0) = true := by simpa using q1
    clear hx h1 h2 h3 h4 h5 h6 HC2 HC3 HC4 HC5
    obtain ⟨d0, d1, d2, d3, d4, d5, d6, d7⟩ := (R2.out).at.zero
    simp only [zeroC] at d0 d1 d2 d3 d4 d5 d6 d7
    have f0 := (R2.out).fz 0
    have f1 := (R2.out).fz 1
    have f2 := (R2.out).fz 2
    have f3 := (R2.out).fz 3
    have f4 := (R2.out).fz 4
    have f5 := (R2.out).fz 5
    have f6 := (R2.out).fz 6
    have f7 := (R2.out).fz 7
    have R9 := (R2.out).put zeroC
    have B9 := below_putOC (g := w.heap.size) (B2.out) (Nat.le_refl _) zeroC
    simp only [putOC, zeroC] at R9 B9
    go_wp2_with fail
    refine bodyPost_ret (res_OC3 rfl _ rfl R9) rfl ?_
    exact ⟨by rw [HF.out]; rfl, B9⟩
  have q1 : c1 = 0 := Decidable.byContradiction q1
  subst q1
  have X2 := Lib.hid (hx rfl)
  clear hx h1
  go_wp2_with fail
  rw [rounds_succ]
  go_wp2_with fail
  refine (HC2.out _ _ X2.out).mono ?_
  rintro e wa2 ⟨rfl, hx, hb⟩
  have R3 : Hid (CardO wa2 w.heap.size zeroC) := Lib.hid (R2.out.below hb (by have := HS9.out; omega))
  have B3 : Hid (Below w.heap.size w wa2) := Lib.hid (B2.out.trans (hb.mono (by have := HS9.out; omega)))
  clear hb HC2 R2 B2 X2
  by_cases q2 : ¬ c2 = 0
  · have HF := Lib.hid (h2.out (by simp) q2)
    have e2 : (c2 != 0) = true := by simpa using q2
    clear hx h2 h3 h4 h5 h6 HC3 HC4 HC5
    obtain ⟨d0, d1, d2, d3, d4, d5, d6, d7⟩ := (R3.out).at.zero
    simp only [zeroC] at d0 d1 d2 d3 d4 d5 d6 d7
    have f0 := (R3.out).fz 0
    have f1 := (R3.out).fz 1
    have f2 := (R3.out).fz 2
    have f3 := (R3.out).fz 3
    have f4 := (R3.out).fz 4
    have f5 := (R3.out).fz 5
    have f6 := (R3.out).fz 6
    have f7 := (R3.out).fz 7
    have R9 := (R3.out).put zeroC
    have B9 := below_putOC (g := w.heap.size) (B3.out) (Nat.le_refl _) zeroC
    simp only [putOC, zeroC] at R9 B9
    go_wp2_with fail
    refine bodyPost_ret (res_OC3 rfl _ rfl R9) rfl ?_
    exact ⟨by rw [HF.out]; rfl, B9⟩
  have q2 : c2 = 0 := Decidable.byContradiction q2
  subst q2
  have X3 := Lib.hid (hx rfl)
  clear hx h2
  go_wp2_with fail
  rw [rounds_succ]
  go_wp2_with fail
  refine (HC3.out _ _ X3.out).mono ?_
  rintro e wa3 ⟨rfl, hx, hb⟩
  have R4 : Hid (CardO wa3 w.heap.size zeroC) := Lib.hid (R3.out.below hb (by have := HS9.out; omega))
  have B4 : Hid (Below w.heap.size w wa3) := Lib.hid (B3.out.trans (hb.mono (by have := HS9.out; omega)))
  clear hb HC3 R3 B3 X3
  by_cases q3 : ¬ c3 = 0
  · have HF := Lib.hid (h3.out (by simp) (by simp) q3)
    have e3 : (c3 != 0) = true := by simpa using q3
    clear hx h3 h4 h5 h6 HC4 HC5
    obtain ⟨d0, d1, d2, d3, d4, d5, d6, d7⟩ := (R4.out).at.zero
    simp only [zeroC] at d0 d1 d2 d3 d4 d5 d6 d7
    have f0 := (R4.out).fz 0
    have f1 := (R4.out).fz 1
    have f2 := (R4.out).fz 2
    have f3 := (R4.out).fz 3
    have f4 := (R4.out).fz 4
    have f5 := (R4.out).fz 5
    have f6 := (R4.out).fz 6
    have f7 := (R4.out).fz 7
    have R9 := (R4.out).put zeroC
    have B9 := below_putOC (g := w.heap.size) (B4.out) (Nat.le_refl _) zeroC
    simp only [putOC, zeroC] at R9 B9
    go_wp2_with fail
    refine bodyPost_ret (res_OC3 rfl _ rfl R9) rfl ?_
    exact ⟨by rw [HF.out]; rfl, B9⟩
  have q3 : c3 = 0 := Decidable.byContradiction q3
  subst q3
  have X4 := Lib.hid (hx rfl)
  clear hx h3
  go_wp2_with fail
  rw [rounds_succ]
  go_wp2_with fail
  refine (HC4.out _ _ X4.out).mono ?_
  rintro e wa4 ⟨rfl, hx, hb⟩
  have R5 : Hid (CardO wa4 w.heap.size zeroC) := Lib.hid (R4.out.below hb (by have := HS9.out; omega))
  have B5 : Hid (Below w.heap.size w wa4) := Lib.hid (B4.out.trans (hb.mono (by have := HS9.out; omega)))
  clear hb HC4 R4 B4 X4
  by_cases q4 : ¬ c4 = 0
  · have HF := Lib.hid (h4.out (by simp) (by simp) (by simp) q4)
    have e4 : (c4 != 0) = true := by simpa using q4
    clear hx h4 h5 h6 HC5
    obtain ⟨d0, d1, d2, d3, d4, d5, d6, d7⟩ := (R5.out).at.zero
    simp only [zeroC] at d0 d1 d2 d3 d4 d5 d6 d7
    have f0 := (R5.out).fz 0
    have f1 := (R5.out).fz 1
    have f2 := (R5.out).fz 2
    have f3 := (R5.out).fz 3
    have f4 := (R5.out).fz 4
    have f5 := (R5.out).fz 5
    have f6 := (R5.out).fz 6
    have f7 := (R5.out).fz 7
    have R9 := (R5.out).put zeroC
    have B9 := below_putOC (g := w.heap.size) (B5.out) (Nat.le_refl _) zeroC
    simp only [putOC, zeroC] at R9 B9
    go_wp2_with fail
    refine bodyPost_ret (res_OC3 rfl _ rfl R9) rfl ?_
    exact ⟨by rw [HF.out]; rfl, B9⟩
  have q4 : c4 = 0 := Decidable.byContradiction q4
  subst q4
  have X5 := Lib.hid (hx rfl)
  clear hx h4
  go_wp2_with fail
  rw [rounds_succ]
  go_wp2_with fail
  refine (HC5.out _ _ X5.out).mono ?_
  rintro e wa5 ⟨rfl, hx, hb⟩
  have R6 : Hid (CardO wa5 w.heap.size zeroC) := Lib.hid (R5.out.below hb (by have := HS9.out; omega))
  have B6 : Hid (Below w.heap.size w wa5) := Lib.hid (B5.out.trans (hb.mono (by have := HS9.out; omega)))
  clear hb HC5 R5 B5 X5
  by_cases q5 : ¬ c5 = 0
  · have HF := Lib.hid (h5.out (by simp) (by simp) (by simp) (by simp) q5)
    have e5 : (c5 != 0) = true := by simpa using q5
    clear hx h5 h6
    obtain ⟨d0, d1, d2, d3, d4, d5, d6, d7⟩ := (R6.out).at.zero
    simp only [zeroC] at d0 d1 d2 d3 d4 d5 d6 d7
    have f0 := (R6.out).fz 0
    have f1 := (R6.out).fz 1
    have f2 := (R6.out).fz 2
    have f3 := (R6.out).fz 3
    have f4 := (R6.out).fz 4
    have f5 := (R6.out).fz 5
    have f6 := (R6.out).fz 6
    have f7 := (R6.out).fz 7
    have R9 := (R6.out).put zeroC
    have B9 := below_putOC (g := w.heap.size) (B6.out) (Nat.le_refl _) zeroC
    simp only [putOC, zeroC] at R9 B9
    go_wp2_with fail
    refine bodyPost_ret (res_OC3 rfl _ rfl R9) rfl ?_
    exact ⟨by rw [HF.out]; rfl, B9⟩
  have q5 : c5 = 0 := Decidable.byContradiction q5
  subst q5
  have X6 := Lib.hid (hx rfl)
  clear hx h5
  go_wp2_with fail
  have HF := Lib.hid (h6.out (by simp) (by simp) (by simp) (by simp) (by simp))
  clear h6
  rw [rounds_succ]
  go_upto_region 12 with fail
  obtain ⟨n0, n1, n2, n3, n4, n5, pa, da, ds, z0, z1, z2, z3, ps, sm, cr, rst, nm, np, dp⟩ := x5
  simp only at HF HRs
  obtain ⟨gr, hgr⟩ : ∃ gr, gr = w0.heap.size := ⟨_, rfl⟩
  have HGR : Hid (gr = w.heap.size + 1) := Lib.hid (hgr.trans HS9.out)
  have HWA : Hid (gr < wa5.heap.size) := Lib.hid (by rw [hgr]; exact X6.out.lt)
  rw [← hgr] at X6 ⊢
  clear HS8 HS9 hgr
  have c0 := X6.out.cell 0 (.int .i64 n0) rfl
  have c1 := X6.out.cell 1 (.int .i64 n1) rfl
  have c2 := X6.out.cell 2 (.int .i64 n2) rfl
  have c3 := X6.out.cell 3 (.int .i64 n3) rfl
  have c4 := X6.out.cell 4 (.int .i64 n4) rfl
  have c5 := X6.out.cell 5 (.int .i64 n5) rfl
  have c6 := X6.out.cell 6 (.string pa) rfl
  have c7 := X6.out.cell 7 (.string da) rfl
  have c16 := X6.out.cell 16 (.string rst) rfl
  clear X6
  have hE : (s.size : Int) - (rst.size : Int) ≤ 1048576 ∧ -1048576 ≤ (s.size : Int) - (rst.size : Int) := HRs.out
  obtain ⟨E, hE2⟩ : ∃ E : Int, (s.size : Int) - (rst.size : Int) = E := ⟨_, rfl⟩
  rw [hE2] at HF
  have KC : Hid (∀ w' : World, (w'.cell? ⟨gr, 0, none⟩ = some (.int .i64 n0) ∧ w'.cell? ⟨gr, 1, none⟩ = some (.int .i64 n1) ∧ w'.cell? ⟨gr, 2, none⟩ = some (.int .i64 n2) ∧ w'.cell? ⟨gr, 3, none⟩ = some (.int .i64 n3) ∧ w'.cell? ⟨gr, 4, none⟩ = some (.int .i64 n4) ∧ w'.cell? ⟨gr, 5, none⟩ = some (.int .i64 n5) ∧ w'.cell? ⟨gr, 6, none⟩ = some (.string pa) ∧ w'.cell? ⟨gr, 7, none⟩ = some (.string da) ∧ w'.cell? ⟨gr, 16, none⟩ = some (.string rst)) → (w'.cell? ⟨gr, 0, none⟩ = some (.int .i64 n0) ∧ w'.cell? ⟨gr, 1, none⟩ = some (.int .i64 n1) ∧ w'.cell? ⟨gr, 2, none⟩ = some (.int .i64 n2) ∧ w'.cell? ⟨gr, 3, none⟩ = some (.int .i64 n3) ∧ w'.cell? ⟨gr, 4, none⟩ = some (.int .i64 n4) ∧ w'.cell? ⟨gr, 5, none⟩ = some (.int .i64 n5) ∧ w'.cell? ⟨gr, 6, none⟩ = some (.string pa) ∧ w'.cell? ⟨gr, 7, none⟩ = some (.string da) ∧ w'.cell? ⟨gr, 16, none⟩ = some (.string rst))) := Lib.hid (fun w' h => h)
  refine wp_region_u (by kernel_rfl) (fun w' => Below w.heap.size w w' ∧ (w'.cell? ⟨gr, 0, none⟩ = some (.int .i64 n0) ∧ w'.cell? ⟨gr, 1, none⟩ = some (.int .i64 n1) ∧ w'.cell? ⟨gr, 2, none⟩ = some (.int .i64 n2) ∧ w'.cell? ⟨gr, 3, none⟩ = some (.int .i64 n3) ∧ w'.cell? ⟨gr, 4, none⟩ = some (.int .i64 n4) ∧ w'.cell? ⟨gr, 5, none⟩ = some (.int .i64 n5) ∧ w'.cell? ⟨gr, 6, none⟩ = some (.string pa) ∧ w'.cell? ⟨gr, 7, none⟩ = some (.string da) ∧ w'.cell? ⟨gr, 16, none⟩ = some (.string rst)) ∧ (w'.heap[w.heap.size]? = some (.cells zeroC.cells.toArray 23 (0, 0)) ∨ w'.heap[w.heap.size]? = some (.cells #[.int .i64 n0, .int .i64 n1, .int .i64 n2, .int .i64 n3, .int .i64 n4, .int .i64 n5, .string pa, .string da] 23 (0, 0)))) (fun x y => y.heap[w.heap.size]? = x.heap[w.heap.size]? ∨ y.heap[w.heap.size]? = some (.cells #[.int .i64 n0, .int .i64 n1, .int .i64 n2, .int .i64 n3, .int .i64 n4, .int .i64 n5, .string pa, .string da] 23 (0, 0))) (fun dq vq _ => match dq with | 48 => vq = .pointer (some ⟨gr, 0, none⟩) | 49 => vq = .pointer (some ⟨gr, 0, none⟩) | 50 => vq = .agg #[.int .i64 n0, .int .i64 n1, .int .i64 n2, .int .i64 n3, .int .i64 n4, .int .i64 n5, .string pa, .string da] | 51 => vq = .string s | 52 => vq = .int .i64 (s.size : Int) | 53 => vq = .pointer (some ⟨gr, 16, none⟩) | 54 => vq = .string rst | 55 => vq = .int .i64 (rst.size : Int) | 56 => vq = .int .i64 E | 7 => vq = .int .i64 E | 8 => vq = .int .i64 0 | _ => True) (fun o w' => o.dst = none → w'.heap[w.heap.size]? = some (.cells #[.int .i64 n0, .int .i64 n1, .int .i64 n2, .int .i64 n3, .int .i64 n4, .int .i64 n5, .string pa, .string da] 23 (0, 0))) (by kernel_rfl) ⟨B6.out.drew, ⟨c0, c1, c2, c3, c4, c5, c6, c7, c16⟩, .inl R6.out⟩ (fun _ _ _ _ _ _ h => h) (fun _ _ _ _ hs hu hd => Or.elim hs (fun h => h.trans (hu hd)) (fun h => h)) ?hops ?hend
  case hops =>
    simp only [List.forall_mem_cons]
    refine ⟨?o48, ?o49, ?o50, ?o51, ?o52, ?o53, ?o54, ?o55, ?o56, ?os9, ?o7, ?o8, fun _ h => by cases h⟩
    case o48 =>
      intro Q a w2 hC hV hI
      have e9 : a.eval (.tmp 9) = .pointer (some ⟨gr, 0, none⟩) := (hI 9 (by simp [Op.operands]) (by kernel_rfl)).trans rfl
      have f9 : a.tmps.getD 9 undef = .pointer (some ⟨gr, 0, none⟩) := e9
      have g9 : a.tmps[9]?.getD undef = .pointer (some ⟨gr, 0, none⟩) := by rw [← Array.getD_eq_getD_getElem?]; exact e9
      refine opU_val (C := fun w' => Below w.heap.size w w' ∧ (w'.cell? ⟨gr, 0, none⟩ = some (.int .i64 n0) ∧ w'.cell? ⟨gr, 1, none⟩ = some (.int .i64 n1) ∧ w'.cell? ⟨gr, 2, none⟩ = some (.int .i64 n2) ∧ w'.cell? ⟨gr, 3, none⟩ = some (.int .i64 n3) ∧ w'.cell? ⟨gr, 4, none⟩ = some (.int .i64 n4) ∧ w'.cell? ⟨gr, 5, none⟩ = some (.int .i64 n5) ∧ w'.cell? ⟨gr, 6, none⟩ = some (.string pa) ∧ w'.cell? ⟨gr, 7, none⟩ = some (.string da) ∧ w'.cell? ⟨gr, 16, none⟩ = some (.string rst)) ∧ (w'.heap[w.heap.size]? = some (.cells zeroC.cells.toArray 23 (0, 0)) ∨ w'.heap[w.heap.size]? = some (.cells #[.int .i64 n0, .int .i64 n1, .int .i64 n2, .int .i64 n3, .int .i64 n4, .int .i64 n5, .string pa, .string da] 23 (0, 0)))) (St := fun x y => y.heap[w.heap.size]? = x.heap[w.heap.size]? ∨ y.heap[w.heap.size]? = some (.cells #[.int .i64 n0, .int .i64 n1, .int .i64 n2, .int .i64 n3, .int .i64 n4, .int .i64 n5, .string pa, .string da] 23 (0, 0))) (V := fun dq vq _ => match dq with | 48 => vq = .pointer (some ⟨gr, 0, none⟩) | 49 => vq = .pointer (some ⟨gr, 0, none⟩) | 50 => vq = .agg #[.int .i64 n0, .int .i64 n1, .int .i64 n2, .int .i64 n3, .int .i64 n4, .int .i64 n5, .string pa, .string da] | 51 => vq = .string s | 52 => vq = .int .i64 (s.size : Int) | 53 => vq = .pointer (some ⟨gr, 16, none⟩) | 54 => vq = .string rst | 55 => vq = .int .i64 (rst.size : Int) | 56 => vq = .int .i64 E | 7 => vq = .int .i64 E | 8 => vq = .int .i64 0 | _ => True) (U := fun o w' => o.dst = none → w'.heap[w.heap.size]? = some (.cells #[.int .i64 n0, .int .i64 n1, .int .i64 n2, .int .i64 n3, .int .i64 n4, .int .i64 n5, .string pa, .string da] 23 (0, 0))) (w' := w2) (.pointer (some ⟨gr, 0, none⟩)) ?_ ?_ ?_ ?_ ?_
      · (clear hV hI hC; go_simp <;> (first | rfl | simp | (rw [IntKind.wrap_i64]; omega)))
      · exact hC
      · exact Or.inl rfl
      · intro d hd; cases hd; rfl
      · intro h; cases h
    case o49 =>
      intro Q a w2 hC hV hI
      have e48 : a.eval (.tmp 48) = .pointer (some ⟨gr, 0, none⟩) := hV 48 (by simp [Op.operands]) (by kernel_rfl)
      have f48 : a.tmps.getD 48 undef = .pointer (some ⟨gr, 0, none⟩) := e48
      have g48 : a.tmps[48]?.getD undef = .pointer (some ⟨gr, 0, none⟩) := by rw [← Array.getD_eq_getD_getElem?]; exact e48
      refine opU_val (C := fun w' => Below w.heap.size w w' ∧ (w'.cell? ⟨gr, 0, none⟩ = some (.int .i64 n0) ∧ w'.cell? ⟨gr, 1, none⟩ = some (.int .i64 n1) ∧ w'.cell? ⟨gr, 2, none⟩ = some (.int .i64 n2) ∧ w'.cell? ⟨gr, 3, none⟩ = some (.int .i64 n3) ∧ w'.cell? ⟨gr, 4, none⟩ = some (.int .i64 n4) ∧ w'.cell? ⟨gr, 5, none⟩ = some (.int .i64 n5) ∧ w'.cell? ⟨gr, 6, none⟩ = some (.string pa) ∧ w'.cell? ⟨gr, 7, none⟩ = some (.string da) ∧ w'.cell? ⟨gr, 16, none⟩ = some (.string rst)) ∧ (w'.heap[w.heap.size]? = some (.cells zeroC.cells.toArray 23 (0, 0)) ∨ w'.heap[w.heap.size]? = some (.cells #[.int .i64 n0, .int .i64 n1, .int .i64 n2, .int .i64 n3, .int .i64 n4, .int .i64 n5, .string pa, .string da] 23 (0, 0)))) (St := fun x y => y.heap[w.heap.size]? = x.heap[w.heap.size]? ∨ y.heap[w.heap.size]? = some (.cells #[.int .i64 n0, .int .i64 n1, .int .i64 n2, .int .i64 n3, .int .i64 n4, .int .i64 n5, .string pa, .string da] 23 (0, 0))) (V := fun dq vq _ => match dq with | 48 => vq = .pointer (some ⟨gr, 0, none⟩) | 49 => vq = .pointer (some ⟨gr, 0, none⟩) | 50 => vq = .agg #[.int .i64 n0, .int .i64 n1, .int .i64 n2, .int .i64 n3, .int .i64 n4, .int .i64 n5, .string pa, .string da] | 51 => vq = .string s | 52 => vq = .int .i64 (s.size : Int) | 53 => vq = .pointer (some ⟨gr, 16, none⟩) | 54 => vq = .string rst | 55 => vq = .int .i64 (rst.size : Int) | 56 => vq = .int .i64 E | 7 => vq = .int .i64 E | 8 => vq = .int .i64 0 | _ => True) (U := fun o w' => o.dst = none → w'.heap[w.heap.size]? = some (.cells #[.int .i64 n0, .int .i64 n1, .int .i64 n2, .int .i64 n3, .int .i64 n4, .int .i64 n5, .string pa, .string da] 23 (0, 0))) (w' := w2) (.pointer (some ⟨gr, 0, none⟩)) ?_ ?_ ?_ ?_ ?_
      · (clear hV hI hC; go_simp <;> (first | rfl | simp | (rw [IntKind.wrap_i64]; omega)))
      · exact hC
      · exact Or.inl rfl
      · intro d hd; cases hd; rfl
      · intro h; cases h
    case o50 =>
      intro Q a w2 hC hV hI
      have e49 : a.eval (.tmp 49) = .pointer (some ⟨gr, 0, none⟩) := hV 49 (by simp [Op.operands]) (by kernel_rfl)
      have f49 : a.tmps.getD 49 undef = .pointer (some ⟨gr, 0, none⟩) := e49
      have g49 : a.tmps[49]?.getD undef = .pointer (some ⟨gr, 0, none⟩) := by rw [← Array.getD_eq_getD_getElem?]; exact e49
      have hK := KC.out w2 hC.2.1
      refine opU_val (C := fun w' => Below w.heap.size w w' ∧ (w'.cell? ⟨gr, 0, none⟩ = some (.int .i64 n0) ∧ w'.cell? ⟨gr, 1, none⟩ = some (.int .i64 n1) ∧ w'.cell? ⟨gr, 2, none⟩ = some (.int .i64 n2) ∧ w'.cell? ⟨gr, 3, none⟩ = some (.int .i64 n3) ∧ w'.cell? ⟨gr, 4, none⟩ = some (.int .i64 n4) ∧ w'.cell? ⟨gr, 5, none⟩ = some (.int .i64 n5) ∧ w'.cell? ⟨gr, 6, none⟩ = some (.string pa) ∧ w'.cell? ⟨gr, 7, none⟩ = some (.string da) ∧ w'.cell? ⟨gr, 16, none⟩ = some (.string rst)) ∧ (w'.heap[w.heap.size]? = some (.cells zeroC.cells.toArray 23 (0, 0)) ∨ w'.heap[w.heap.size]? = some (.cells #[.int .i64 n0, .int .i64 n1, .int .i64 n2, .int .i64 n3, .int .i64 n4, .int .i64 n5, .string pa, .string da] 23 (0, 0)))) (St := fun x y => y.heap[w.heap.size]? = x.heap[w.heap.size]? ∨ y.heap[w.heap.size]? = some (.cells #[.int .i64 n0, .int .i64 n1, .int .i64 n2, .int .i64 n3, .int .i64 n4, .int .i64 n5, .string pa, .string da] 23 (0, 0))) (V := fun dq vq _ => match dq with | 48 => vq = .pointer (some ⟨gr, 0, none⟩) | 49 => vq = .pointer (some ⟨gr, 0, none⟩) | 50 => vq = .agg #[.int .i64 n0, .int .i64 n1, .int .i64 n2, .int .i64 n3, .int .i64 n4, .int .i64 n5, .string pa, .string da] | 51 => vq = .string s | 52 => vq = .int .i64 (s.size : Int) | 53 => vq = .pointer (some ⟨gr, 16, none⟩) | 54 => vq = .string rst | 55 => vq = .int .i64 (rst.size : Int) | 56 => vq = .int .i64 E | 7 => vq = .int .i64 E | 8 => vq = .int .i64 0 | _ => True) (U := fun o w' => o.dst = none → w'.heap[w.heap.size]? = some (.cells #[.int .i64 n0, .int .i64 n1, .int .i64 n2, .int .i64 n3, .int .i64 n4, .int .i64 n5, .string pa, .string da] 23 (0, 0))) (w' := w2) (.agg #[.int .i64 n0, .int .i64 n1, .int .i64 n2, .int .i64 n3, .int .i64 n4, .int .i64 n5, .string pa, .string da]) ?_ ?_ ?_ ?_ ?_
      · (clear hV hI hC; go_simp <;> (first | rfl | simp | (rw [IntKind.wrap_i64]; omega)))
      · exact hC
      · exact Or.inl rfl
      · intro d hd; cases hd; rfl
      · intro h; cases h
    case o51 =>
      intro Q a w2 hC hV hI
      have e0 : a.eval (.tmp 0) = .string s := (hI 0 (by simp [Op.operands]) (by kernel_rfl)).trans rfl
      have f0 : a.tmps.getD 0 undef = .string s := e0
      have g0 : a.tmps[0]?.getD undef = .string s := by rw [← Array.getD_eq_getD_getElem?]; exact e0
      refine opU_val (C := fun w' => Below w.heap.size w w' ∧ (w'.cell? ⟨gr, 0, none⟩ = some (.int .i64 n0) ∧ w'.cell? ⟨gr, 1, none⟩ = some (.int .i64 n1) ∧ w'.cell? ⟨gr, 2, none⟩ = some (.int .i64 n2) ∧ w'.cell? ⟨gr, 3, none⟩ = some (.int .i64 n3) ∧ w'.cell? ⟨gr, 4, none⟩ = some (.int .i64 n4) ∧ w'.cell? ⟨gr, 5, none⟩ = some (.int .i64 n5) ∧ w'.cell? ⟨gr, 6, none⟩ = some (.string pa) ∧ w'.cell? ⟨gr, 7, none⟩ = some (.string da) ∧ w'.cell? ⟨gr, 16, none⟩ = some (.string rst)) ∧ (w'.heap[w.heap.size]? = some (.cells zeroC.cells.toArray 23 (0, 0)) ∨ w'.heap[w.heap.size]? = some (.cells #[.int .i64 n0, .int .i64 n1, .int .i64 n2, .int .i64 n3, .int .i64 n4, .int .i64 n5, .string pa, .string da] 23 (0, 0)))) (St := fun x y => y.heap[w.heap.size]? = x.heap[w.heap.size]? ∨ y.heap[w.heap.size]? = some (.cells #[.int .i64 n0, .int .i64 n1, .int .i64 n2, .int .i64 n3, .int .i64 n4, .int .i64 n5, .string pa, .string da] 23 (0, 0))) (V := fun dq vq _ => match dq with | 48 => vq = .pointer (some ⟨gr, 0, none⟩) | 49 => vq = .pointer (some ⟨gr, 0, none⟩) | 50 => vq = .agg #[.int .i64 n0, .int .i64 n1, .int .i64 n2, .int .i64 n3, .int .i64 n4, .int .i64 n5, .string pa, .string da] | 51 => vq = .string s | 52 => vq = .int .i64 (s.size : Int) | 53 => vq = .pointer (some ⟨gr, 16, none⟩) | 54 => vq = .string rst | 55 => vq = .int .i64 (rst.size : Int) | 56 => vq = .int .i64 E | 7 => vq = .int .i64 E | 8 => vq = .int .i64 0 | _ => True) (U := fun o w' => o.dst = none → w'.heap[w.heap.size]? = some (.cells #[.int .i64 n0, .int .i64 n1, .int .i64 n2, .int .i64 n3, .int .i64 n4, .int .i64 n5, .string pa, .string da] 23 (0, 0))) (w' := w2) (.string s) ?_ ?_ ?_ ?_ ?_
      · (clear hV hI hC; go_simp <;> (first | rfl | simp | (rw [IntKind.wrap_i64]; omega)))
      · exact hC
      · exact Or.inl rfl
      · intro d hd; cases hd; rfl
      · intro h; cases h
    case o52 =>
      intro Q a w2 hC hV hI
      have e51 : a.eval (.tmp 51) = .string s := hV 51 (by simp [Op.operands, Call.operands]) (by kernel_rfl)
      have f51 : a.tmps.getD 51 undef = .string s := e51
      have g51 : a.tmps[51]?.getD undef = .string s := by rw [← Array.getD_eq_getD_getElem?]; exact e51
      refine opU_val (C := fun w' => Below w.heap.size w w' ∧ (w'.cell? ⟨gr, 0, none⟩ = some (.int .i64 n0) ∧ w'.cell? ⟨gr, 1, none⟩ = some (.int .i64 n1) ∧ w'.cell? ⟨gr, 2, none⟩ = some (.int .i64 n2) ∧ w'.cell? ⟨gr, 3, none⟩ = some (.int .i64 n3) ∧ w'.cell? ⟨gr, 4, none⟩ = some (.int .i64 n4) ∧ w'.cell? ⟨gr, 5, none⟩ = some (.int .i64 n5) ∧ w'.cell? ⟨gr, 6, none⟩ = some (.string pa) ∧ w'.cell? ⟨gr, 7, none⟩ = some (.string da) ∧ w'.cell? ⟨gr, 16, none⟩ = some (.string rst)) ∧ (w'.heap[w.heap.size]? = some (.cells zeroC.cells.toArray 23 (0, 0)) ∨ w'.heap[w.heap.size]? = some (.cells #[.int .i64 n0, .int .i64 n1, .int .i64 n2, .int .i64 n3, .int .i64 n4, .int .i64 n5, .string pa, .string da] 23 (0, 0)))) (St := fun x y => y.heap[w.heap.size]? = x.heap[w.heap.size]? ∨ y.heap[w.heap.size]? = some (.cells #[.int .i64 n0, .int .i64 n1, .int .i64 n2, .int .i64 n3, .int .i64 n4, .int .i64 n5, .string pa, .string da] 23 (0, 0))) (V := fun dq vq _ => match dq with | 48 => vq = .pointer (some ⟨gr, 0, none⟩) | 49 => vq = .pointer (some ⟨gr, 0, none⟩) | 50 => vq = .agg #[.int .i64 n0, .int .i64 n1, .int .i64 n2, .int .i64 n3, .int .i64 n4, .int .i64 n5, .string pa, .string da] | 51 => vq = .string s | 52 => vq = .int .i64 (s.size : Int) | 53 => vq = .pointer (some ⟨gr, 16, none⟩) | 54 => vq = .string rst | 55 => vq = .int .i64 (rst.size : Int) | 56 => vq = .int .i64 E | 7 => vq = .int .i64 E | 8 => vq = .int .i64 0 | _ => True) (U := fun o w' => o.dst = none → w'.heap[w.heap.size]? = some (.cells #[.int .i64 n0, .int .i64 n1, .int .i64 n2, .int .i64 n3, .int .i64 n4, .int .i64 n5, .string pa, .string da] 23 (0, 0))) (w' := w2) (.int .i64 (s.size : Int)) ?_ ?_ ?_ ?_ ?_
      · (clear hV hI hC; go_simp <;> (first | rfl | simp | (rw [IntKind.wrap_i64]; omega)))
      · exact hC
      · exact Or.inl rfl
      · intro d hd; cases hd; rfl
      · intro h; cases h
    case o53 =>
      intro Q a w2 hC hV hI
      have e9 : a.eval (.tmp 9) = .pointer (some ⟨gr, 0, none⟩) := (hI 9 (by simp [Op.operands]) (by kernel_rfl)).trans rfl
      have f9 : a.tmps.getD 9 undef = .pointer (some ⟨gr, 0, none⟩) := e9
      have g9 : a.tmps[9]?.getD undef = .pointer (some ⟨gr, 0, none⟩) := by rw [← Array.getD_eq_getD_getElem?]; exact e9
      refine opU_val (C := fun w' => Below w.heap.size w w' ∧ (w'.cell? ⟨gr, 0, none⟩ = some (.int .i64 n0) ∧ w'.cell? ⟨gr, 1, none⟩ = some (.int .i64 n1) ∧ w'.cell? ⟨gr, 2, none⟩ = some (.int .i64 n2) ∧ w'.cell? ⟨gr, 3, none⟩ = some (.int .i64 n3) ∧ w'.cell? ⟨gr, 4, none⟩ = some (.int .i64 n4) ∧ w'.cell? ⟨gr, 5, none⟩ = some (.int .i64 n5) ∧ w'.cell? ⟨gr, 6, none⟩ = some (.string pa) ∧ w'.cell? ⟨gr, 7, none⟩ = some (.string da) ∧ w'.cell? ⟨gr, 16, none⟩ = some (.string rst)) ∧ (w'.heap[w.heap.size]? = some (.cells zeroC.cells.toArray 23 (0, 0)) ∨ w'.heap[w.heap.size]? = some (.cells #[.int .i64 n0, .int .i64 n1, .int .i64 n2, .int .i64 n3, .int .i64 n4, .int .i64 n5, .string pa, .string da] 23 (0, 0)))) (St := fun x y => y.heap[w.heap.size]? = x.heap[w.heap.size]? ∨ y.heap[w.heap.size]? = some (.cells #[.int .i64 n0, .int .i64 n1, .int .i64 n2, .int .i64 n3, .int .i64 n4, .int .i64 n5, .string pa, .string da] 23 (0, 0))) (V := fun dq vq _ => match dq with | 48 => vq = .pointer (some ⟨gr, 0, none⟩) | 49 => vq = .pointer (some ⟨gr, 0, none⟩) | 50 => vq = .agg #[.int .i64 n0, .int .i64 n1, .int .i64 n2, .int .i64 n3, .int .i64 n4, .int .i64 n5, .string pa, .string da] | 51 => vq = .string s | 52 => vq = .int .i64 (s.size : Int) | 53 => vq = .pointer (some ⟨gr, 16, none⟩) | 54 => vq = .string rst | 55 => vq = .int .i64 (rst.size : Int) | 56 => vq = .int .i64 E | 7 => vq = .int .i64 E | 8 => vq = .int .i64 0 | _ => True) (U := fun o w' => o.dst = none → w'.heap[w.heap.size]? = some (.cells #[.int .i64 n0, .int .i64 n1, .int .i64 n2, .int .i64 n3, .int .i64 n4, .int .i64 n5, .string pa, .string da] 23 (0, 0))) (w' := w2) (.pointer (some ⟨gr, 16, none⟩)) ?_ ?_ ?_ ?_ ?_
      · (clear hV hI hC; go_simp <;> (first | rfl | simp | (rw [IntKind.wrap_i64]; omega)))
      · exact hC
      · exact Or.inl rfl
      · intro d hd; cases hd; rfl
      · intro h; cases h
    case o54 =>
      intro Q a w2 hC hV hI
      have e53 : a.eval (.tmp 53) = .pointer (some ⟨gr, 16, none⟩) := hV 53 (by simp [Op.operands]) (by kernel_rfl)
      have f53 : a.tmps.getD 53 undef = .pointer (some ⟨gr, 16, none⟩) := e53
      have g53 : a.tmps[53]?.getD undef = .pointer (some ⟨gr, 16, none⟩) := by rw [← Array.getD_eq_getD_getElem?]; exact e53
      have hK := KC.out w2 hC.2.1
      refine opU_val (C := fun w' => Below w.heap.size w w' ∧ (w'.cell? ⟨gr, 0, none⟩ = some (.int .i64 n0) ∧ w'.cell? ⟨gr, 1, none⟩ = some (.int .i64 n1) ∧ w'.cell? ⟨gr, 2, none⟩ = some (.int .i64 n2) ∧ w'.cell? ⟨gr, 3, none⟩ = some (.int .i64 n3) ∧ w'.cell? ⟨gr, 4, none⟩ = some (.int .i64 n4) ∧ w'.cell? ⟨gr, 5, none⟩ = some (.int .i64 n5) ∧ w'.cell? ⟨gr, 6, none⟩ = some (.string pa) ∧ w'.cell? ⟨gr, 7, none⟩ = some (.string da) ∧ w'.cell? ⟨gr, 16, none⟩ = some (.string rst)) ∧ (w'.heap[w.heap.size]? = some (.cells zeroC.cells.toArray 23 (0, 0)) ∨ w'.heap[w.heap.size]? = some (.cells #[.int .i64 n0, .int .i64 n1, .int .i64 n2, .int .i64 n3, .int .i64 n4, .int .i64 n5, .string pa, .string da] 23 (0, 0)))) (St := fun x y => y.heap[w.heap.size]? = x.heap[w.heap.size]? ∨ y.heap[w.heap.size]? = some (.cells #[.int .i64 n0, .int .i64 n1, .int .i64 n2, .int .i64 n3, .int .i64 n4, .int .i64 n5, .string pa, .string da] 23 (0, 0))) (V := fun dq vq _ => match dq with | 48 => vq = .pointer (some ⟨gr, 0, none⟩) | 49 => vq = .pointer (some ⟨gr, 0, none⟩) | 50 => vq = .agg #[.int .i64 n0, .int .i64 n1, .int .i64 n2, .int .i64 n3, .int .i64 n4, .int .i64 n5, .string pa, .string da] | 51 => vq = .string s | 52 => vq = .int .i64 (s.size : Int) | 53 => vq = .pointer (some ⟨gr, 16, none⟩) | 54 => vq = .string rst | 55 => vq = .int .i64 (rst.size : Int) | 56 => vq = .int .i64 E | 7 => vq = .int .i64 E | 8 => vq = .int .i64 0 | _ => True) (U := fun o w' => o.dst = none → w'.heap[w.heap.size]? = some (.cells #[.int .i64 n0, .int .i64 n1, .int .i64 n2, .int .i64 n3, .int .i64 n4, .int .i64 n5, .string pa, .string da] 23 (0, 0))) (w' := w2) (.string rst) ?_ ?_ ?_ ?_ ?_
      · (clear hV hI hC; go_simp <;> (first | rfl | simp | (rw [IntKind.wrap_i64]; omega)))
      · exact hC
      · exact Or.inl rfl
      · intro d hd; cases hd; rfl
      · intro h; cases h
    case o55 =>
      intro Q a w2 hC hV hI
      have e54 : a.eval (.tmp 54) = .string rst := hV 54 (by simp [Op.operands, Call.operands]) (by kernel_rfl)
      have f54 : a.tmps.getD 54 undef = .string rst := e54
      have g54 : a.tmps[54]?.getD undef = .string rst := by rw [← Array.getD_eq_getD_getElem?]; exact e54
      refine opU_val (C := fun w' => Below w.heap.size w w' ∧ (w'.cell? ⟨gr, 0, none⟩ = some (.int .i64 n0) ∧ w'.cell? ⟨gr, 1, none⟩ = some (.int .i64 n1) ∧ w'.cell? ⟨gr, 2, none⟩ = some (.int .i64 n2) ∧ w'.cell? ⟨gr, 3, none⟩ = some (.int .i64 n3) ∧ w'.cell? ⟨gr, 4, none⟩ = some (.int .i64 n4) ∧ w'.cell? ⟨gr, 5, none⟩ = some (.int .i64 n5) ∧ w'.cell? ⟨gr, 6, none⟩ = some (.string pa) ∧ w'.cell? ⟨gr, 7, none⟩ = some (.string da) ∧ w'.cell? ⟨gr, 16, none⟩ = some (.string rst)) ∧ (w'.heap[w.heap.size]? = some (.cells zeroC.cells.toArray 23 (0, 0)) ∨ w'.heap[w.heap.size]? = some (.cells #[.int .i64 n0, .int .i64 n1, .int .i64 n2, .int .i64 n3, .int .i64 n4, .int .i64 n5, .string pa, .string da] 23 (0, 0)))) (St := fun x y => y.heap[w.heap.size]? = x.heap[w.heap.size]? ∨ y.heap[w.heap.size]? = some (.cells #[.int .i64 n0, .int .i64 n1, .int .i64 n2, .int .i64 n3, .int .i64 n4, .int .i64 n5, .string pa, .string da] 23 (0, 0))) (V := fun dq vq _ => match dq with | 48 => vq = .pointer (some ⟨gr, 0, none⟩) | 49 => vq = .pointer (some ⟨gr, 0, none⟩) | 50 => vq = .agg #[.int .i64 n0, .int .i64 n1, .int .i64 n2, .int .i64 n3, .int .i64 n4, .int .i64 n5, .string pa, .string da] | 51 => vq = .string s | 52 => vq = .int .i64 (s.size : Int) | 53 => vq = .pointer (some ⟨gr, 16, none⟩) | 54 => vq = .string rst | 55 => vq = .int .i64 (rst.size : Int) | 56 => vq = .int .i64 E | 7 => vq = .int .i64 E | 8 => vq = .int .i64 0 | _ => True) (U := fun o w' => o.dst = none → w'.heap[w.heap.size]? = some (.cells #[.int .i64 n0, .int .i64 n1, .int .i64 n2, .int .i64 n3, .int .i64 n4, .int .i64 n5, .string pa, .string da] 23 (0, 0))) (w' := w2) (.int .i64 (rst.size : Int)) ?_ ?_ ?_ ?_ ?_
      · (clear hV hI hC; go_simp <;> (first | rfl | simp | (rw [IntKind.wrap_i64]; omega)))
      · exact hC
      · exact Or.inl rfl
      · intro d hd; cases hd; rfl
      · intro h; cases h
    case o56 =>
      intro Q a w2 hC hV hI
      have e52 : a.eval (.tmp 52) = .int .i64 (s.size : Int) := hV 52 (by simp [Op.operands]) (by kernel_rfl)
      have f52 : a.tmps.getD 52 undef = .int .i64 (s.size : Int) := e52
      have g52 : a.tmps[52]?.getD undef = .int .i64 (s.size : Int) := by rw [← Array.getD_eq_getD_getElem?]; exact e52
      have e55 : a.eval (.tmp 55) = .int .i64 (rst.size : Int) := hV 55 (by simp [Op.operands]) (by kernel_rfl)
      have f55 : a.tmps.getD 55 undef = .int .i64 (rst.size : Int) := e55
      have g55 : a.tmps[55]?.getD undef = .int .i64 (rst.size : Int) := by rw [← Array.getD_eq_getD_getElem?]; exact e55
      refine opU_val (C := fun w' => Below w.heap.size w w' ∧ (w'.cell? ⟨gr, 0, none⟩ = some (.int .i64 n0) ∧ w'.cell? ⟨gr, 1, none⟩ = some (.int .i64 n1) ∧ w'.cell? ⟨gr, 2, none⟩ = some (.int .i64 n2) ∧ w'.cell? ⟨gr, 3, none⟩ = some (.int .i64 n3) ∧ w'.cell? ⟨gr, 4, none⟩ = some (.int .i64 n4) ∧ w'.cell? ⟨gr, 5, none⟩ = some (.int .i64 n5) ∧ w'.cell? ⟨gr, 6, none⟩ = some (.string pa) ∧ w'.cell? ⟨gr, 7, none⟩ = some (.string da) ∧ w'.cell? ⟨gr, 16, none⟩ = some (.string rst)) ∧ (w'.heap[w.heap.size]? = some (.cells zeroC.cells.toArray 23 (0, 0)) ∨ w'.heap[w.heap.size]? = some (.cells #[.int .i64 n0, .int .i64 n1, .int .i64 n2, .int .i64 n3, .int .i64 n4, .int .i64 n5, .string pa, .string da] 23 (0, 0)))) (St := fun x y => y.heap[w.heap.size]? = x.heap[w.heap.size]? ∨ y.heap[w.heap.size]? = some (.cells #[.int .i64 n0, .int .i64 n1, .int .i64 n2, .int .i64 n3, .int .i64 n4, .int .i64 n5, .string pa, .string da] 23 (0, 0))) (V := fun dq vq _ => match dq with | 48 => vq = .pointer (some ⟨gr, 0, none⟩) | 49 => vq = .pointer (some ⟨gr, 0, none⟩) | 50 => vq = .agg #[.int .i64 n0, .int .i64 n1, .int .i64 n2, .int .i64 n3, .int .i64 n4, .int .i64 n5, .string pa, .string da] | 51 => vq = .string s | 52 => vq = .int .i64 (s.size : Int) | 53 => vq = .pointer (some ⟨gr, 16, none⟩) | 54 => vq = .string rst | 55 => vq = .int .i64 (rst.size : Int) | 56 => vq = .int .i64 E | 7 => vq = .int .i64 E | 8 => vq = .int .i64 0 | _ => True) (U := fun o w' => o.dst = none → w'.heap[w.heap.size]? = some (.cells #[.int .i64 n0, .int .i64 n1, .int .i64 n2, .int .i64 n3, .int .i64 n4, .int .i64 n5, .string pa, .string da] 23 (0, 0))) (w' := w2) (.int .i64 E) ?_ ?_ ?_ ?_ ?_
      · (clear hV hI hC; go_simp <;> (first | rfl | simp | (rw [IntKind.wrap_i64]; omega)))
      · exact hC
      · exact Or.inl rfl
      · intro d hd; cases hd; rfl
      · intro h; cases h
    case os9 =>
      intro Q a w2 hC hV hI
      have e6 : a.eval (.tmp 6) = .pointer (some ⟨w.heap.size, 0, none⟩) := (hI 6 (by simp [Op.operands]) (by kernel_rfl)).trans rfl
      have f6 : a.tmps.getD 6 undef = .pointer (some ⟨w.heap.size, 0, none⟩) := e6
      have g6 : a.tmps[6]?.getD undef = .pointer (some ⟨w.heap.size, 0, none⟩) := by rw [← Array.getD_eq_getD_getElem?]; exact e6
      have e50 : a.eval (.tmp 50) = .agg #[.int .i64 n0, .int .i64 n1, .int .i64 n2, .int .i64 n3, .int .i64 n4, .int .i64 n5, .string pa, .string da] := hV 50 (by simp [Op.operands]) (by kernel_rfl)
      have f50 : a.tmps.getD 50 undef = .agg #[.int .i64 n0, .int .i64 n1, .int .i64 n2, .int .i64 n3, .int .i64 n4, .int .i64 n5, .string pa, .string da] := e50
      have g50 : a.tmps[50]?.getD undef = .agg #[.int .i64 n0, .int .i64 n1, .int .i64 n2, .int .i64 n3, .int .i64 n4, .int .i64 n5, .string pa, .string da] := by rw [← Array.getD_eq_getD_getElem?]; exact e50
      have hS : ∀ cs : Array Value, cs.size = 8 → w2.heap[w.heap.size]? = some (.cells cs 23 (0, 0)) → _ := fun cs hc hR => run_storeVar_row (P := Try.prog) w2 w.heap.size 23 23 cs #[.int .i64 n0, .int .i64 n1, .int .i64 n2, .int .i64 n3, .int .i64 n4, .int .i64 n5, .string pa, .string da] hR (by rw [Try.sizeOC]; rfl) hc (by simp [Value.oneCell'])
      have hR2 : (w2.setRow w.heap.size #[.int .i64 n0, .int .i64 n1, .int .i64 n2, .int .i64 n3, .int .i64 n4, .int .i64 n5, .string pa, .string da]).heap[w.heap.size]? = some (.cells #[.int .i64 n0, .int .i64 n1, .int .i64 n2, .int .i64 n3, .int .i64 n4, .int .i64 n5, .string pa, .string da] 23 (0, 0)) := hC.2.2.elim (fun h => setRow_heap _ _ _ _ _ _ h) (fun h => setRow_heap _ _ _ _ _ _ h)
      have hgr : gr ≠ w.heap.size := by have := HGR.out; omega
      have hcb : (w2.setRow w.heap.size #[.int .i64 n0, .int .i64 n1, .int .i64 n2, .int .i64 n3, .int .i64 n4, .int .i64 n5, .string pa, .string da]).heap[gr]? = w2.heap[gr]? := setRow_other _ _ _ _ hgr
      have hkb : ∀ m, (w2.setRow w.heap.size #[.int .i64 n0, .int .i64 n1, .int .i64 n2, .int .i64 n3, .int .i64 n4, .int .i64 n5, .string pa, .string da]).cell? ⟨gr, m, none⟩ = w2.cell? ⟨gr, m, none⟩ := fun m => World.cell?_of_block hcb
      refine opU_store (C := fun w' => Below w.heap.size w w' ∧ (w'.cell? ⟨gr, 0, none⟩ = some (.int .i64 n0) ∧ w'.cell? ⟨gr, 1, none⟩ = some (.int .i64 n1) ∧ w'.cell? ⟨gr, 2, none⟩ = some (.int .i64 n2) ∧ w'.cell? ⟨gr, 3, none⟩ = some (.int .i64 n3) ∧ w'.cell? ⟨gr, 4, none⟩ = some (.int .i64 n4) ∧ w'.cell? ⟨gr, 5, none⟩ = some (.int .i64 n5) ∧ w'.cell? ⟨gr, 6, none⟩ = some (.string pa) ∧ w'.cell? ⟨gr, 7, none⟩ = some (.string da) ∧ w'.cell? ⟨gr, 16, none⟩ = some (.string rst)) ∧ (w'.heap[w.heap.size]? = some (.cells zeroC.cells.toArray 23 (0, 0)) ∨ w'.heap[w.heap.size]? = some (.cells #[.int .i64 n0, .int .i64 n1, .int .i64 n2, .int .i64 n3, .int .i64 n4, .int .i64 n5, .string pa, .string da] 23 (0, 0)))) (St := fun x y => y.heap[w.heap.size]? = x.heap[w.heap.size]? ∨ y.heap[w.heap.size]? = some (.cells #[.int .i64 n0, .int .i64 n1, .int .i64 n2, .int .i64 n3, .int .i64 n4, .int .i64 n5, .string pa, .string da] 23 (0, 0))) (V := fun dq vq _ => match dq with | 48 => vq = .pointer (some ⟨gr, 0, none⟩) | 49 => vq = .pointer (some ⟨gr, 0, none⟩) | 50 => vq = .agg #[.int .i64 n0, .int .i64 n1, .int .i64 n2, .int .i64 n3, .int .i64 n4, .int .i64 n5, .string pa, .string da] | 51 => vq = .string s | 52 => vq = .int .i64 (s.size : Int) | 53 => vq = .pointer (some ⟨gr, 16, none⟩) | 54 => vq = .string rst | 55 => vq = .int .i64 (rst.size : Int) | 56 => vq = .int .i64 E | 7 => vq = .int .i64 E | 8 => vq = .int .i64 0 | _ => True) (U := fun o w' => o.dst = none → w'.heap[w.heap.size]? = some (.cells #[.int .i64 n0, .int .i64 n1, .int .i64 n2, .int .i64 n3, .int .i64 n4, .int .i64 n5, .string pa, .string da] 23 (0, 0))) 23 _ _ rfl rfl ⟨w.heap.size, 0, none⟩ e6 e50 (hC.2.2.elim (fun h => hS _ rfl h) (fun h => hS _ rfl h)) ?_ ?_ ?_
      · exact ⟨hC.1.trans (below_setK (Nat.le_refl _) _), ⟨(hkb 0).trans hC.2.1.1, (hkb 1).trans hC.2.1.2.1, (hkb 2).trans hC.2.1.2.2.1, (hkb 3).trans hC.2.1.2.2.2.1, (hkb 4).trans hC.2.1.2.2.2.2.1, (hkb 5).trans hC.2.1.2.2.2.2.2.1, (hkb 6).trans hC.2.1.2.2.2.2.2.2.1, (hkb 7).trans hC.2.1.2.2.2.2.2.2.2.1, (hkb 16).trans hC.2.1.2.2.2.2.2.2.2.2⟩, Or.inr hR2⟩
      · exact Or.inr hR2
      · intro _; exact hR2
    case o7 =>
      intro Q a w2 hC hV hI
      have e56 : a.eval (.tmp 56) = .int .i64 E := hV 56 (by simp [Op.operands]) (by kernel_rfl)
      have f56 : a.tmps.getD 56 undef = .int .i64 E := e56
      have g56 : a.tmps[56]?.getD undef = .int .i64 E := by rw [← Array.getD_eq_getD_getElem?]; exact e56
      refine opU_val (C := fun w' => Below w.heap.size w w' ∧ (w'.cell? ⟨gr, 0, none⟩ = some (.int .i64 n0) ∧ w'.cell? ⟨gr, 1, none⟩ = some (.int .i64 n1) ∧ w'.cell? ⟨gr, 2, none⟩ = some (.int .i64 n2) ∧ w'.cell? ⟨gr, 3, none⟩ = some (.int .i64 n3) ∧ w'.cell? ⟨gr, 4, none⟩ = some (.int .i64 n4) ∧ w'.cell? ⟨gr, 5, none⟩ = some (.int .i64 n5) ∧ w'.cell? ⟨gr, 6, none⟩ = some (.string pa) ∧ w'.cell? ⟨gr, 7, none⟩ = some (.string da) ∧ w'.cell? ⟨gr, 16, none⟩ = some (.string rst)) ∧ (w'.heap[w.heap.size]? = some (.cells zeroC.cells.toArray 23 (0, 0)) ∨ w'.heap[w.heap.size]? = some (.cells #[.int .i64 n0, .int .i64 n1, .int .i64 n2, .int .i64 n3, .int .i64 n4, .int .i64 n5, .string pa, .string da] 23 (0, 0)))) (St := fun x y => y.heap[w.heap.size]? = x.heap[w.heap.size]? ∨ y.heap[w.heap.size]? = some (.cells #[.int .i64 n0, .int .i64 n1, .int .i64 n2, .int .i64 n3, .int .i64 n4, .int .i64 n5, .string pa, .string da] 23 (0, 0))) (V := fun dq vq _ => match dq with | 48 => vq = .pointer (some ⟨gr, 0, none⟩) | 49 => vq = .pointer (some ⟨gr, 0, none⟩) | 50 => vq = .agg #[.int .i64 n0, .int .i64 n1, .int .i64 n2, .int .i64 n3, .int .i64 n4, .int .i64 n5, .string pa, .string da] | 51 => vq = .string s | 52 => vq = .int .i64 (s.size : Int) | 53 => vq = .pointer (some ⟨gr, 16, none⟩) | 54 => vq = .string rst | 55 => vq = .int .i64 (rst.size : Int) | 56 => vq = .int .i64 E | 7 => vq = .int .i64 E | 8 => vq = .int .i64 0 | _ => True) (U := fun o w' => o.dst = none → w'.heap[w.heap.size]? = some (.cells #[.int .i64 n0, .int .i64 n1, .int .i64 n2, .int .i64 n3, .int .i64 n4, .int .i64 n5, .string pa, .string da] 23 (0, 0))) (w' := w2) (.int .i64 E) ?_ ?_ ?_ ?_ ?_
      · (clear hV hI hC; go_simp <;> (first | rfl | simp | (rw [IntKind.wrap_i64]; omega)))
      · exact hC
      · exact Or.inl rfl
      · intro d hd; cases hd; rfl
      · intro h; cases h
    case o8 =>
      intro Q a w2 hC hV hI
      refine opU_val (C := fun w' => Below w.heap.size w w' ∧ (w'.cell? ⟨gr, 0, none⟩ = some (.int .i64 n0) ∧ w'.cell? ⟨gr, 1, none⟩ = some (.int .i64 n1) ∧ w'.cell? ⟨gr, 2, none⟩ = some (.int .i64 n2) ∧ w'.cell? ⟨gr, 3, none⟩ = some (.int .i64 n3) ∧ w'.cell? ⟨gr, 4, none⟩ = some (.int .i64 n4) ∧ w'.cell? ⟨gr, 5, none⟩ = some (.int .i64 n5) ∧ w'.cell? ⟨gr, 6, none⟩ = some (.string pa) ∧ w'.cell? ⟨gr, 7, none⟩ = some (.string da) ∧ w'.cell? ⟨gr, 16, none⟩ = some (.string rst)) ∧ (w'.heap[w.heap.size]? = some (.cells zeroC.cells.toArray 23 (0, 0)) ∨ w'.heap[w.heap.size]? = some (.cells #[.int .i64 n0, .int .i64 n1, .int .i64 n2, .int .i64 n3, .int .i64 n4, .int .i64 n5, .string pa, .string da] 23 (0, 0)))) (St := fun x y => y.heap[w.heap.size]? = x.heap[w.heap.size]? ∨ y.heap[w.heap.size]? = some (.cells #[.int .i64 n0, .int .i64 n1, .int .i64 n2, .int .i64 n3, .int .i64 n4, .int .i64 n5, .string pa, .string da] 23 (0, 0))) (V := fun dq vq _ => match dq with | 48 => vq = .pointer (some ⟨gr, 0, none⟩) | 49 => vq = .pointer (some ⟨gr, 0, none⟩) | 50 => vq = .agg #[.int .i64 n0, .int .i64 n1, .int .i64 n2, .int .i64 n3, .int .i64 n4, .int .i64 n5, .string pa, .string da] | 51 => vq = .string s | 52 => vq = .int .i64 (s.size : Int) | 53 => vq = .pointer (some ⟨gr, 16, none⟩) | 54 => vq = .string rst | 55 => vq = .int .i64 (rst.size : Int) | 56 => vq = .int .i64 E | 7 => vq = .int .i64 E | 8 => vq = .int .i64 0 | _ => True) (U := fun o w' => o.dst = none → w'.heap[w.heap.size]? = some (.cells #[.int .i64 n0, .int .i64 n1, .int .i64 n2, .int .i64 n3, .int .i64 n4, .int .i64 n5, .string pa, .string da] 23 (0, 0))) (w' := w2) (.int .i64 0) ?_ ?_ ?_ ?_ ?_
      · (clear hV hI hC; go_simp <;> (first | rfl | simp | (rw [IntKind.wrap_i64]; omega)))
      · exact hC
      · exact Or.inl rfl
      · intro d hd; cases hd; rfl
      · intro h; cases h
  case hend =>
    intro f w9 hC hall huall
    simp only [List.forall_mem_cons] at hall
    obtain ⟨h48, h49, h50, h51, h52, h53, h54, h55, h56, _, h7, h8, _⟩ := hall
    simp only [List.forall_mem_cons] at huall
    obtain ⟨_, _, _, _, _, _, _, _, _, hus, _, _, _⟩ := huall
    replace h48 : f 48 = .pointer (some ⟨gr, 0, none⟩) := h48 48 rfl
    replace h49 : f 49 = .pointer (some ⟨gr, 0, none⟩) := h49 49 rfl
    replace h50 : f 50 = .agg #[.int .i64 n0, .int .i64 n1, .int .i64 n2, .int .i64 n3, .int .i64 n4, .int .i64 n5, .string pa, .string da] := h50 50 rfl
    replace h51 : f 51 = .string s := h51 51 rfl
    replace h52 : f 52 = .int .i64 (s.size : Int) := h52 52 rfl
    replace h53 : f 53 = .pointer (some ⟨gr, 16, none⟩) := h53 53 rfl
    replace h54 : f 54 = .string rst := h54 54 rfl
    replace h55 : f 55 = .int .i64 (rst.size : Int) := h55 55 rfl
    replace h56 : f 56 = .int .i64 E := h56 56 rfl
    replace h7 : f 7 = .int .i64 E := h7 7 rfl
    replace h8 : f 8 = .int .i64 0 := h8 8 rfl
    simp only [putAll, Act.put, List.setIfInBounds_toArray, List.set_cons_succ, List.set_cons_zero, h48, h49, h50, h51, h52, h53, h54, h55, h56, h7, h8]
    clear h48 h49 h50 h51 h52 h53 h54 h55 h56 h7 h8
    have R9 : CardO w9 w.heap.size ⟨n0, n1, n2, n3, n4, n5, pa, da⟩ := hus trivial
    have B9 := hC.1
    clear KC hC hus
    go_wp2_with fail
    refine bodyPost_ret (res_OC3 rfl _ rfl R9) rfl ?_
    exact ⟨by rw [HF.out]; rfl, B9⟩
end Go.Proofs.Ytcnmbolmgifgfaa
