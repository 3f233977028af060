/- Contract of impl.GetCard: a card read at a place, with its code. -/
import Derived.Test.YtcnmbolmgifgfaaRdCard
import Derived.Test.YtcnmbolmgifgfaaCatchG
import Derived.Test.YtcnmbolmgifgfaaGetCdS
namespace Go.Proofs.Ytcnmbolmgifgfaa
open Go.ChangeShapes Go.WideShapes Go.ChangeAt Go.RowKit Go.Deep

theorem readCard_any (s : ByteArray) (i : Int) (w : World) (hs : s.size ≤ 1048576) (hi : i ≤ 9223372036854775807) :
    Calls Try.prog 26 #[.string s, .int .i64 i] w fun e w' => e = rdE s i ∧ Below w.heap.size w w' := by
  by_cases h : i < 0 ∨ (s.size : Int) < i + 76
  · exact readCard_short s i w hs h hi
  · obtain ⟨j, rfl⟩ : ∃ j : Nat, i = j := ⟨i.toNat, by omega⟩
    exact readCard_long s j w hs (by omega)
theorem four (w : World) (o0 o1 o2 o3 : Obj) : (((((w.alloc o0).alloc o1).alloc o2).alloc o3).heap[w.heap.size]? = some o0) ∧ (((((w.alloc o0).alloc o1).alloc o2).alloc o3).heap[w.heap.size + 1]? = some o1) ∧ (((((w.alloc o0).alloc o1).alloc o2).alloc o3).heap[w.heap.size + 1 + 1]? = some o2) ∧ (((((w.alloc o0).alloc o1).alloc o2).alloc o3).heap[w.heap.size + 1 + 1 + 1]? = some o3) ∧ Below w.heap.size w ((((w.alloc o0).alloc o1).alloc o2).alloc o3) ∧ ((((w.alloc o0).alloc o1).alloc o2).alloc o3).heap.size = w.heap.size + 4 := by
  refine ⟨?_, ?_, ?_, ?_, ?_, by simp⟩
  · exact ((((Below.refl (w.alloc o0).heap.size (w.alloc o0)).alloc (Nat.le_refl _) o1).alloc (by simp) o2).alloc (by first | (simp; done) | (simp; omega)) o3).block w.heap.size (by simp) |>.trans (heap_newK _ _ _ rfl)
  · exact (((Below.refl ((w.alloc o0).alloc o1).heap.size ((w.alloc o0).alloc o1)).alloc (Nat.le_refl _) o2).alloc (by simp) o3).block (w.heap.size + 1) (by simp) |>.trans (heap_newK _ _ _ (by simp))
  · exact ((Below.refl (((w.alloc o0).alloc o1).alloc o2).heap.size (((w.alloc o0).alloc o1).alloc o2)).alloc (Nat.le_refl _) o3).block (w.heap.size + 1 + 1) (by simp) |>.trans (heap_newK _ _ _ (by simp))
  · exact heap_newK _ _ _ (by simp)
  · exact ((((Below.refl _ _).alloc (Nat.le_refl _) _).alloc (by simp) _).alloc (by simp; omega) _).alloc (by simp; omega) _
theorem res_get {tmps : Array Value} {w : World} {gk gn gc : Nat} {x : Card} {n c : Int} (h4 : tmps.getD 4 undef = .pointer (some ⟨gk, 0, none⟩)) (h5 : tmps.getD 5 undef = .pointer (some ⟨gn, 0, none⟩)) (h6 : tmps.getD 6 undef = .pointer (some ⟨gc, 0, none⟩))
    (hk : CardO w gk x) (hn : w.cell? ⟨gn, 0, none⟩ = some (.int .i64 n)) (hc : w.cell? ⟨gc, 0, none⟩ = some (.int .i64 c)) :
    (results Try.f9 tmps).run Try.prog w = .ok (.tuple #[.agg x.cells.toArray, .int .i64 n, .int .i64 c]) w := by
  have h4' : tmps[4]?.getD undef = .pointer (some ⟨gk, 0, none⟩) := by simpa using h4
  have h5' : tmps[5]?.getD undef = .pointer (some ⟨gn, 0, none⟩) := by simpa using h5
  have h6' : tmps[6]?.getD undef = .pointer (some ⟨gc, 0, none⟩) := by simpa using h6
  have hl5 : (loadVar 3 ⟨gn, 0, none⟩).run Try.prog w = .ok (.int .i64 n) w := by simp [go_sem, hn]
  have hl6 : (loadVar 3 ⟨gc, 0, none⟩).run Try.prog w = .ok (.int .i64 c) w := by simp [go_sem, hc]
  simp [results, Try.results9, h4', h5', h6', asAddr, load_OC hk, hl5, hl6]
theorem last3 {w w3 : World} {B gk gn gc : Nat} {x : Card} {n y z : Int} (T0 : CardO w3 gk x) (T2 : w3.heap[gn]? = some (.cells #[.int .i64 y] 3 (0, 0))) (T3 : w3.heap[gc]? = some (.cells #[.int .i64 z] 3 (0, 0))) (TB : Below B w w3) (h1 : gk ≠ gn) (h2 : gk ≠ gc) (h3 : gn ≠ gc) (h4 : B ≤ gk) (h5 : B ≤ gn) (h6 : B ≤ gc) :
    CardO (((putOC w3 gk x).setCell ⟨gn, 0, none⟩ (.int .i64 n)).setCell ⟨gc, 0, none⟩ (.int .i64 0)).drew gk x ∧ (((putOC w3 gk x).setCell ⟨gn, 0, none⟩ (.int .i64 n)).setCell ⟨gc, 0, none⟩ (.int .i64 0)).drew.heap[gn]? = some (.cells #[.int .i64 n] 3 (0, 0)) ∧ (((putOC w3 gk x).setCell ⟨gn, 0, none⟩ (.int .i64 n)).setCell ⟨gc, 0, none⟩ (.int .i64 0)).drew.heap[gc]? = some (.cells #[.int .i64 0] 3 (0, 0)) ∧ Below B w (((putOC w3 gk x).setCell ⟨gn, 0, none⟩ (.int .i64 n)).setCell ⟨gc, 0, none⟩ (.int .i64 0)).drew := by
  have X0 := T0.put x
  have X2 := (putOC_other (w := w3) (y := x) (fun e => h1 e.symm)).trans T2
  have X3 := (putOC_other (w := w3) (y := x) (fun e => h2 e.symm)).trans T3
  have XB := below_putOC TB h4 x
  generalize putOC w3 gk x = w4 at X0 X2 X3 XB ⊢
  have Y0 : CardO (w4.setCell ⟨gn, 0, none⟩ (.int .i64 n)) gk x := X0.other h1
  have Y2 := heap_setK (i := 0) (v := .int .i64 n) X2
  have Y3 := (Below.heap_setCell w4 ⟨gn, 0, none⟩ (.int .i64 n) gc (fun e => h3 e.symm)).trans X3
  have YB := XB.setCell (p := ⟨gn, 0, none⟩) h5 (.int .i64 n)
  generalize w4.setCell ⟨gn, 0, none⟩ (.int .i64 n) = w5 at Y0 Y2 Y3 YB ⊢
  have Z0 : CardO (w5.setCell ⟨gc, 0, none⟩ (.int .i64 0)) gk x := Y0.other h2
  have Z2 := (Below.heap_setCell w5 ⟨gc, 0, none⟩ (.int .i64 0) gn h3).trans Y2
  have Z3 := heap_setK (i := 0) (v := .int .i64 0) Y3
  have ZB := YB.setCell (p := ⟨gc, 0, none⟩) h6 (.int .i64 0)
  exact ⟨Z0, Z2, Z3, ZB.drew⟩
set_option maxHeartbeats 800000 in
set_option maxRecDepth 8000 in
theorem getCard_impl (s : ByteArray) (i : Int) (w : World) (hs : s.size ≤ 1048576) (hi : i ≤ 9223372036854775807) :
    Calls Try.prog 9 #[.string s, .int .i64 i] w fun e w' => e = .returned (cdV s i) ∧ Below w.heap.size w w' := by
  have HR := Lib.hid (fun w => readCard_any s i w hs hi)
  by_cases hc : cdCode s i = 0
  · have HV : Hid (cdV s i = .tuple #[.agg (cdCard s i).cells.toArray, .int .i64 (cdNext s i), .int .i64 0]) := Lib.hid (by rw [cdV, hc])
    rw [rdE, if_pos hc] at HR
    generalize cdV s i = V at HV
    generalize cdNext s i = n at HV HR
    generalize cdCard s i = x at HV HR
    clear hc
    go_enter_defers Try.func9, Try.ntmps9
    go_upto_region 2 with fail
    obtain ⟨p0, p1, p2, p3, p4, p5⟩ := four w (.cells #[.int .i64 i] 3 (0, 0)) (.cells zeroC.cells.toArray 23 (0, 0)) (.cells #[.int .i64 0] 3 (0, 0)) (.cells #[.int .i64 0] 3 (0, 0))
    generalize hw1 : World.alloc (World.alloc (World.alloc (World.alloc w _) _) _) _ = w1
    replace p0 : w1.heap[w.heap.size]? = some (.cells #[.int .i64 i] 3 (0, 0)) := by rw [← hw1]; exact p0
    replace p1 : CardO w1 (w.heap.size + 1) zeroC := by rw [← hw1]; exact p1
    replace p2 : w1.heap[w.heap.size + 1 + 1]? = some (.cells #[.int .i64 0] 3 (0, 0)) := by rw [← hw1]; exact p2
    replace p3 : w1.heap[w.heap.size + 1 + 1 + 1]? = some (.cells #[.int .i64 0] 3 (0, 0)) := by rw [← hw1]; exact p3
    replace p4 : Below w.heap.size w w1 := by rw [← hw1]; exact p4
    replace p5 : w1.heap.size = w.heap.size + 4 := by rw [← hw1]; exact p5
    clear hw1
    have P0 := Lib.hid p0
    have P1 := Lib.hid p1
    have P2 := Lib.hid p2
    have P3 := Lib.hid p3
    have P4 := Lib.hid p4
    have P5 := Lib.hid p5
    have q0 : w1.cell? ⟨w.heap.size, 0, none⟩ = some (.int .i64 i) := by simp [World.cell?, p0]
    clear p0 p1 p2 p3 p4 p5
    go_wp2_with fail
    refine (HR.out _).mono ?_
    rintro e w2 ⟨rfl, hb⟩
    have Q0 := Lib.hid ((hb.block w.heap.size (by have := P5.out; omega)).trans P0.out)
    have Q1 : Hid (CardO w2 (w.heap.size + 1) zeroC) := Lib.hid ((hb.block (w.heap.size + 1) (by have := P5.out; omega)).trans P1.out)
    have Q2 := Lib.hid ((hb.block (w.heap.size + 1 + 1) (by have := P5.out; omega)).trans P2.out)
    have Q3 := Lib.hid ((hb.block (w.heap.size + 1 + 1 + 1) (by have := P5.out; omega)).trans P3.out)
    have QB := Lib.hid (P4.out.trans (hb.mono P4.out.size))
    have QS : Hid (w.heap.size + 4 ≤ w2.heap.size) := Lib.hid (by have := hb.size; have := P5.out; omega)
    clear hb q0 P0 P1 P2 P3 P4 P5
    have hR := Q1.out
    unfold CardO at hR
    have r0 : w2.cell? ⟨w.heap.size + 1, 0, none⟩ = some (.int .i64 0) := by simp [World.cell?, hR, zeroC, Card.cells]
    have r1 : w2.cell? ⟨w.heap.size + 1, 1, none⟩ = some (.int .i64 0) := by simp [World.cell?, hR, zeroC, Card.cells]
    have r2 : w2.cell? ⟨w.heap.size + 1, 2, none⟩ = some (.int .i64 0) := by simp [World.cell?, hR, zeroC, Card.cells]
    have r3 : w2.cell? ⟨w.heap.size + 1, 3, none⟩ = some (.int .i64 0) := by simp [World.cell?, hR, zeroC, Card.cells]
    have r4 : w2.cell? ⟨w.heap.size + 1, 4, none⟩ = some (.int .i64 0) := by simp [World.cell?, hR, zeroC, Card.cells]
    have r5 : w2.cell? ⟨w.heap.size + 1, 5, none⟩ = some (.int .i64 0) := by simp [World.cell?, hR, zeroC, Card.cells]
    have r6 : w2.cell? ⟨w.heap.size + 1, 6, none⟩ = some (.string ⟨#[]⟩) := by simp [World.cell?, hR, zeroC, Card.cells]
    have r7 : w2.cell? ⟨w.heap.size + 1, 7, none⟩ = some (.string ⟨#[]⟩) := by simp [World.cell?, hR, zeroC, Card.cells]
    have z0 := Q1.out.fz 0
    have z1 := Q1.out.fz 1
    have z2 := Q1.out.fz 2
    have z3 := Q1.out.fz 3
    have z4 := Q1.out.fz 4
    have z5 := Q1.out.fz 5
    have z6 := Q1.out.fz 6
    have z7 := Q1.out.fz 7
    have r8 : w2.cell? ⟨w.heap.size + 1 + 1, 0, none⟩ = some (.int .i64 0) := by simp [World.cell?, Q2.out]
    have z8 : w2.frozen? ⟨w.heap.size + 1 + 1, 0, none⟩ = false := by simp [World.frozen?, Q2.out]
    obtain ⟨xi, xm, xu, xg, xc, xt, xp, xd⟩ := x
    simp only [Card.cells]
    clear hR
    go_upto_region 3 with fail
    clear r0 r1 r2 r3 r4 r5 r6 r7 r8 z0 z1 z2 z3 z4 z5 z6 z7 z8
    generalize hw3 : World.setCell _ ⟨w.heap.size + 1 + 1, 0, none⟩ _ = w3
    have T0 : Hid (CardO w3 (w.heap.size + 1) ⟨xi, xm, xu, xg, xc, xt, xp, xd⟩) := Lib.hid (by rw [← hw3]; exact (Q1.out.put ⟨xi, xm, xu, xg, xc, xt, xp, xd⟩).other (by omega))
    have T2 : Hid (w3.heap[w.heap.size + 1 + 1]? = some (.cells #[.int .i64 n] 3 (0, 0))) := Lib.hid (by rw [← hw3]; exact heap_setK ((putOC_other (w := w2) (g := w.heap.size + 1) (y := ⟨xi, xm, xu, xg, xc, xt, xp, xd⟩) (by omega)).trans Q2.out))
    have T3 : Hid (w3.heap[w.heap.size + 1 + 1 + 1]? = some (.cells #[.int .i64 0] 3 (0, 0))) := Lib.hid (by rw [← hw3]; exact (Below.heap_setCell _ _ _ _ (by simp)).trans ((putOC_other (w := w2) (g := w.heap.size + 1) (y := ⟨xi, xm, xu, xg, xc, xt, xp, xd⟩) (by omega)).trans Q3.out))
    have TB : Hid (Below w.heap.size w w3) := Lib.hid (by rw [← hw3]; exact (below_putOC (g := w.heap.size + 1) QB.out (by omega) ⟨xi, xm, xu, xg, xc, xt, xp, xd⟩).setCell (by simp; omega) _)
    clear hw3 Q0 Q1 Q2 Q3 QB QS HR
    have hR := T0.out
    unfold CardO at hR
    have r0 : w3.cell? ⟨w.heap.size + 1, 0, none⟩ = some (.int .i64 xi) := by simp [World.cell?, hR, Card.cells]
    have r1 : w3.cell? ⟨w.heap.size + 1, 1, none⟩ = some (.int .i64 xm) := by simp [World.cell?, hR, Card.cells]
    have r2 : w3.cell? ⟨w.heap.size + 1, 2, none⟩ = some (.int .i64 xu) := by simp [World.cell?, hR, Card.cells]
    have r3 : w3.cell? ⟨w.heap.size + 1, 3, none⟩ = some (.int .i64 xg) := by simp [World.cell?, hR, Card.cells]
    have r4 : w3.cell? ⟨w.heap.size + 1, 4, none⟩ = some (.int .i64 xc) := by simp [World.cell?, hR, Card.cells]
    have r5 : w3.cell? ⟨w.heap.size + 1, 5, none⟩ = some (.int .i64 xt) := by simp [World.cell?, hR, Card.cells]
    have r6 : w3.cell? ⟨w.heap.size + 1, 6, none⟩ = some (.string xp) := by simp [World.cell?, hR, Card.cells]
    have r7 : w3.cell? ⟨w.heap.size + 1, 7, none⟩ = some (.string xd) := by simp [World.cell?, hR, Card.cells]
    have z0 := T0.out.fz 0
    have z1 := T0.out.fz 1
    have z2 := T0.out.fz 2
    have z3 := T0.out.fz 3
    have z4 := T0.out.fz 4
    have z5 := T0.out.fz 5
    have z6 := T0.out.fz 6
    have z7 := T0.out.fz 7
    have r8 : w3.cell? ⟨w.heap.size + 1 + 1, 0, none⟩ = some (.int .i64 n) := by simp [World.cell?, T2.out]
    have z8 : w3.frozen? ⟨w.heap.size + 1 + 1, 0, none⟩ = false := by simp [World.frozen?, T2.out]
    have r9 : w3.cell? ⟨w.heap.size + 1 + 1 + 1, 0, none⟩ = some (.int .i64 0) := by simp [World.cell?, T3.out]
    have z9 : w3.frozen? ⟨w.heap.size + 1 + 1 + 1, 0, none⟩ = false := by simp [World.frozen?, T3.out]
    clear hR
    go_region
    clear r0 r1 r2 r3 r4 r5 r6 r7 r8 r9 z0 z1 z2 z3 z4 z5 z6 z7 z8 z9
    obtain ⟨M0, M2, M3, MB⟩ := last3 (x := ⟨xi, xm, xu, xg, xc, xt, xp, xd⟩) (n := n) T0.out T2.out T3.out TB.out (by omega) (by omega) (by omega) (by omega) (by omega) (by omega)
    simp only [putOC] at M0 M2 M3 MB
    generalize World.drew _ = w4 at M0 M2 M3 MB ⊢
    replace M0 := Lib.hid M0
    replace M2 := Lib.hid M2
    replace M3 := Lib.hid M3
    replace MB := Lib.hid MB
    clear T0 T2 T3 TB
    have l1 := M0.out.lt
    have l2 := (Array.getElem?_eq_some_iff.1 M2.out).1
    have l3 := (Array.getElem?_eq_some_iff.1 M3.out).1
    go_wp2
    refine leaves_cons (f := 24) (args := #[.pointer (some ⟨w.heap.size + 1 + 1 + 1, 0, none⟩), .pointer (some ⟨w.heap.size, 0, none⟩), .pointer (some ⟨w.heap.size + 1, 0, none⟩), .pointer (some ⟨w.heap.size + 1 + 1, 0, none⟩)]) (by simp) (by simp [go_sem]) ?_
    refine (get_idle (w.heap.size + 1 + 1 + 1) w.heap.size (w.heap.size + 1) (w.heap.size + 1 + 1) 0 _ M3.out).mono ?_
    rintro e u' w5 ⟨rfl, rfl, w6, hb, rfl⟩
    have N0 : CardO (w6.setCell ⟨w.heap.size + 1 + 1 + 1, 0, none⟩ (.int .i64 0)) (w.heap.size + 1) ⟨xi, xm, xu, xg, xc, xt, xp, xd⟩ := CardO.other ((hb.block _ l1).trans M0.out) (by omega)
    have N2 := (Below.heap_setCell w6 ⟨w.heap.size + 1 + 1 + 1, 0, none⟩ (.int .i64 0) (w.heap.size + 1 + 1) (by simp)).trans ((hb.block _ l2).trans M2.out)
    have N3 := heap_setK (i := 0) (v := .int .i64 0) ((hb.block _ l3).trans M3.out)
    have NB := (MB.out.trans (hb.mono MB.out.size)).setCell (p := ⟨w.heap.size + 1 + 1 + 1, 0, none⟩) (by simp; omega) (.int .i64 0)
    generalize w6.setCell ⟨w.heap.size + 1 + 1 + 1, 0, none⟩ (.int .i64 0) = w7 at N0 N2 N3 NB ⊢
    show ∃ v, (results Try.f9 _).run Try.prog w7 = .ok v w7 ∧ (Ending.returned v = Ending.returned V ∧ Below w.heap.size w w7)
    exact ⟨_, res_get (gk := w.heap.size + 1) (gn := w.heap.size + 1 + 1) (gc := w.heap.size + 1 + 1 + 1) (x := ⟨xi, xm, xu, xg, xc, xt, xp, xd⟩) (n := n) (c := 0) rfl rfl rfl N0 (by simp [World.cell?, N2]) (by simp [World.cell?, N3]), by rw [HV.out], NB⟩
  · have HV := Lib.hid (cdV_bad (badCd_of (c := cdCode s i) rfl hc))
    rw [rdE, if_neg hc] at HR
    generalize cdV s i = V at HV
    generalize cdCode s i = c at HV HR hc
    go_enter_defers Try.func9, Try.ntmps9
    go_upto_region 2 with fail
    obtain ⟨p0, p1, p2, p3, p4, p5⟩ := four w (.cells #[.int .i64 i] 3 (0, 0)) (.cells zeroC.cells.toArray 23 (0, 0)) (.cells #[.int .i64 0] 3 (0, 0)) (.cells #[.int .i64 0] 3 (0, 0))
    generalize hw1 : World.alloc (World.alloc (World.alloc (World.alloc w _) _) _) _ = w1
    replace p0 : w1.heap[w.heap.size]? = some (.cells #[.int .i64 i] 3 (0, 0)) := by rw [← hw1]; exact p0
    replace p1 : CardO w1 (w.heap.size + 1) zeroC := by rw [← hw1]; exact p1
    replace p2 : w1.heap[w.heap.size + 1 + 1]? = some (.cells #[.int .i64 0] 3 (0, 0)) := by rw [← hw1]; exact p2
    replace p3 : w1.heap[w.heap.size + 1 + 1 + 1]? = some (.cells #[.int .i64 0] 3 (0, 0)) := by rw [← hw1]; exact p3
    replace p4 : Below w.heap.size w w1 := by rw [← hw1]; exact p4
    replace p5 : w1.heap.size = w.heap.size + 4 := by rw [← hw1]; exact p5
    clear hw1
    have P0 := Lib.hid p0
    have P1 := Lib.hid p1
    have P2 := Lib.hid p2
    have P3 := Lib.hid p3
    have P4 := Lib.hid p4
    have P5 := Lib.hid p5
    have q0 : w1.cell? ⟨w.heap.size, 0, none⟩ = some (.int .i64 i) := by simp [World.cell?, p0]
    clear p0 p1 p2 p3 p4 p5
    go_wp2_with fail
    refine (HR.out _).mono ?_
    rintro e w2 ⟨rfl, hb⟩
    have Q0 := Lib.hid ((hb.block w.heap.size (by have := P5.out; omega)).trans P0.out)
    have Q1 : Hid (CardO w2 (w.heap.size + 1) zeroC) := Lib.hid ((hb.block (w.heap.size + 1) (by have := P5.out; omega)).trans P1.out)
    have Q2 := Lib.hid ((hb.block (w.heap.size + 1 + 1) (by have := P5.out; omega)).trans P2.out)
    have Q3 := Lib.hid ((hb.block (w.heap.size + 1 + 1 + 1) (by have := P5.out; omega)).trans P3.out)
    have QB := Lib.hid (P4.out.trans (hb.mono P4.out.size))
    have QS : Hid (w.heap.size + 4 ≤ w2.heap.size) := Lib.hid (by have := hb.size; have := P5.out; omega)
    clear hb q0 P0 P1 P2 P3 P4 P5
    show Leaves Try.prog _ _ _ _ (.panicking (panC c)) w2
    refine leaves_cons (f := 24) (args := #[.pointer (some ⟨w.heap.size + 1 + 1 + 1, 0, none⟩), .pointer (some ⟨w.heap.size, 0, none⟩), .pointer (some ⟨w.heap.size + 1, 0, none⟩), .pointer (some ⟨w.heap.size + 1 + 1, 0, none⟩)]) (by simp) (by simp [go_sem]) ?_
    refine (get_catch (w.heap.size + 1 + 1 + 1) w.heap.size (w.heap.size + 1) (w.heap.size + 1 + 1) c i 0 0 zeroC _ hc (by omega) (by omega) (by omega) (by omega) (by omega) Q3.out Q0.out Q2.out Q1.out).mono ?_
    rintro e u' w3 ⟨rfl, rfl, w4, hb4, rfl⟩
    have U0 : CardO w4 (w.heap.size + 1) zeroC := (hb4.block (w.heap.size + 1) (by have := QS.out; omega)).trans Q1.out
    have U2 : w4.heap[w.heap.size + 1 + 1]? = some (.cells #[.int .i64 0] 3 (0, 0)) := (hb4.block (w.heap.size + 1 + 1) (by have := QS.out; omega)).trans Q2.out
    have U3 : w4.heap[w.heap.size + 1 + 1 + 1]? = some (.cells #[.int .i64 0] 3 (0, 0)) := (hb4.block (w.heap.size + 1 + 1 + 1) (by have := QS.out; omega)).trans Q3.out
    have UB : Below w.heap.size w w4 := QB.out.trans (hb4.mono QB.out.size)
    clear hb4 Q0 Q1 Q2 Q3 QB QS
    have V0 : CardO (w4.setCell ⟨w.heap.size + 1 + 1 + 1, 0, none⟩ (.int .i64 c)) (w.heap.size + 1) zeroC := U0.other (by omega)
    have V3 := heap_setK (i := 0) (v := .int .i64 c) U3
    have V2 : (w4.setCell ⟨w.heap.size + 1 + 1 + 1, 0, none⟩ (.int .i64 c)).heap[w.heap.size + 1 + 1]? = some (.cells #[.int .i64 0] 3 (0, 0)) := (Below.heap_setCell _ _ _ _ (by simp)).trans U2
    have VB := UB.setCell (p := ⟨w.heap.size + 1 + 1 + 1, 0, none⟩) (by simp; omega) (.int .i64 c)
    clear U0 U2 U3 UB
    generalize w4.setCell ⟨w.heap.size + 1 + 1 + 1, 0, none⟩ (.int .i64 c) = w5 at V0 V2 V3 VB ⊢
    have X0 := V0.put zeroC
    have X3 := (putOC_other (w := w5) (b := w.heap.size + 1 + 1 + 1) (g := w.heap.size + 1) (y := zeroC) (by omega)).trans V3
    have X2 := (putOC_other (w := w5) (b := w.heap.size + 1 + 1) (g := w.heap.size + 1) (y := zeroC) (by omega)).trans V2
    have XB := below_putOC (g := w.heap.size + 1) VB (by omega) zeroC
    clear V0 V2 V3 VB
    generalize putOC w5 (w.heap.size + 1) zeroC = w6 at X0 X2 X3 XB ⊢
    have Y0 : CardO (w6.setCell ⟨w.heap.size + 1 + 1, 0, none⟩ (.int .i64 i)) (w.heap.size + 1) zeroC := X0.other (by omega)
    have Y2 := heap_setK (i := 0) (v := .int .i64 i) X2
    have Y3 := (Below.heap_setCell w6 ⟨w.heap.size + 1 + 1, 0, none⟩ (.int .i64 i) (w.heap.size + 1 + 1 + 1) (by simp)).trans X3
    have YB := XB.setCell (p := ⟨w.heap.size + 1 + 1, 0, none⟩) (by simp; omega) (.int .i64 i)
    generalize w6.setCell ⟨w.heap.size + 1 + 1, 0, none⟩ (.int .i64 i) = w7 at Y0 Y2 Y3 YB ⊢
    have hr := res_get (w := w7) (gk := w.heap.size + 1) (gn := w.heap.size + 1 + 1) (gc := w.heap.size + 1 + 1 + 1) (x := zeroC) (n := i) (c := c) (tmps := #[.string s, .int .i64 i, undef, .pointer (some ⟨w.heap.size, 0, none⟩), .pointer (some ⟨w.heap.size + 1, 0, none⟩), .pointer (some ⟨w.heap.size + 1 + 1, 0, none⟩), .pointer (some ⟨w.heap.size + 1 + 1 + 1, 0, none⟩), .func (.func 24) #[] #[.pointer (some ⟨w.heap.size + 1 + 1 + 1, 0, none⟩), .pointer (some ⟨w.heap.size, 0, none⟩), .pointer (some ⟨w.heap.size + 1, 0, none⟩), .pointer (some ⟨w.heap.size + 1 + 1, 0, none⟩)], undef, .string s, .int .i64 i, undef, undef, undef, undef, undef]) rfl rfl rfl Y0 (by simp [World.cell?, Y2]) (by simp [World.cell?, Y3])
    show ∃ v, (results Try.f9 _).run Try.prog w7 = .ok v w7 ∧ (Ending.returned v = Ending.returned V ∧ Below w.heap.size w w7)
    exact ⟨_, hr, by rw [HV.out]; rfl, YB⟩
end Go.Proofs.Ytcnmbolmgifgfaa
