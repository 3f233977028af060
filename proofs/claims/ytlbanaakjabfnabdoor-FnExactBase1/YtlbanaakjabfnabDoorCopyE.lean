/- Contract of impl.copyEntry. -/
import Derived.Test.YtlbanaakjabfnabDoorEntO
import Derived.Test.YtlbanaakjabfnabDoorClone
namespace Go.Proofs.YtlbanaakjabfnabDoor
open Go.ChangeShapes Go.WideShapes Go.ChangeAt Go.RowKit Go.Deep

theorem two_newO {w w1 : World} {e z : Ent} (h : Below ((w.alloc (.cells e.cells.toArray 25)).alloc (.cells z.cells.toArray 25)).heap.size ((w.alloc (.cells e.cells.toArray 25)).alloc (.cells z.cells.toArray 25)) w1) :
    EntO w1 w.heap.size e ∧ EntO w1 (w.heap.size + 1) z ∧ Below w.heap.size w w1 := by
  have hs1 : (w.alloc (.cells e.cells.toArray 25)).heap.size = w.heap.size + 1 := by simp
  have hs2 : ((w.alloc (.cells e.cells.toArray 25)).alloc (.cells z.cells.toArray 25)).heap.size = w.heap.size + 2 := by simp
  have a1 := EntO.new w e
  have a2 : EntO ((w.alloc (.cells e.cells.toArray 25)).alloc (.cells z.cells.toArray 25)) w.heap.size e := a1.below ((Below.refl _ _).alloc (Nat.le_refl _) _) (by omega)
  have b2 := EntO.new (w.alloc (.cells e.cells.toArray 25)) z
  rw [hs1] at b2
  exact ⟨a2.below h (by omega), b2.below h (by omega), (((Below.refl _ w).alloc (Nat.le_refl _) _).alloc (by omega) _).trans (h.mono (by omega))⟩
set_option maxHeartbeats 3200000 in
set_option maxRecDepth 8000 in
theorem copyEntry_impl (k : Int) (p l : ByteArray) (m u g t : Int) (us gr b : ByteArray) (w : World) (hp : p.size ≤ 4194304) (hl : l.size ≤ 4194304) (hus : us.size ≤ 4194304) (hgr : gr.size ≤ 4194304) (hbz : b.size ≤ 4194304) :
    Calls Tryd.prog 23 #[.agg #[.int .i64 k, .string p, .string l, .int .i64 m, .int .i64 u, .int .i64 g, .int .i64 t, .string us, .string gr, .string b]] w fun e w' => e = .returned (.agg #[.int .i64 k, .string p, .string l, .int .i64 m, .int .i64 u, .int .i64 g, .int .i64 t, .string us, .string gr, .string b]) ∧ Below w.heap.size w w' := by
  have K1 := Lib.hid (fun w => clone_any p w (by omega))
  have K2 := Lib.hid (fun w => clone_any l w (by omega))
  have K7 := Lib.hid (fun w => clone_any us w (by omega))
  have K8 := Lib.hid (fun w => clone_any gr w (by omega))
  have K9 := Lib.hid (fun w => clone_any b w (by omega))
  go_enter Tryd.func23, Tryd.ntmps23
  go_wp2_with fail
  refine (K1.out _).mono ?_
  rintro e w1 ⟨rfl, hb⟩
  obtain ⟨e1, e2, e3⟩ := two_newO (e := ⟨k, p, l, m, u, g, t, us, gr, b⟩) (z := ⟨0, ⟨#[]⟩, ⟨#[]⟩, 0, 0, 0, 0, ⟨#[]⟩, ⟨#[]⟩, ⟨#[]⟩⟩) hb
  have EO := Lib.hid e1
  have RO := Lib.hid e2
  have B := Lib.hid e3
  clear hb e1 e2 e3
  obtain ⟨c0, c1, c2, c3, c4, c5, c6, c7, c8, c9⟩ := EO.out.at.zero
  have f1 := EO.out.fz 1
  go_wp2_with fail
  refine (K2.out _).mono ?_
  rintro e w2 ⟨rfl, hb⟩
  have EO2 := Lib.hid ((EO.out.set (e' := ⟨k, p, l, m, u, g, t, us, gr, b⟩) 1 (.string p) rfl).below hb (by simpa using EO.out.lt))
  have RO2 := Lib.hid ((EntO.other (b := w.heap.size) (i := 1) (v := .string p) RO.out (by omega)).below hb (by simpa using RO.out.lt))
  have B2 := Lib.hid (btE (B.out.setCell (p := ⟨w.heap.size, 1, none⟩) (Nat.le_refl _) (.string p)) hb)
  clear hb EO RO B c0 c1 c2 c3 c4 c5 c6 c7 c8 c9 f1
  have EO := EO2
  have RO := RO2
  have B := B2
  clear EO2 RO2 B2
  obtain ⟨c0, c1, c2, c3, c4, c5, c6, c7, c8, c9⟩ := EO.out.at.zero
  have f2 := EO.out.fz 2
  go_wp2_with fail
  refine (K7.out _).mono ?_
  rintro e w7 ⟨rfl, hb⟩
  have EO7 := Lib.hid ((EO.out.set (e' := ⟨k, p, l, m, u, g, t, us, gr, b⟩) 2 (.string l) rfl).below hb (by simpa using EO.out.lt))
  have RO7 := Lib.hid ((EntO.other (b := w.heap.size) (i := 2) (v := .string l) RO.out (by omega)).below hb (by simpa using RO.out.lt))
  have B7 := Lib.hid (btE (B.out.setCell (p := ⟨w.heap.size, 2, none⟩) (Nat.le_refl _) (.string l)) hb)
  clear hb EO RO B c0 c1 c2 c3 c4 c5 c6 c7 c8 c9 f2
  have EO := EO7
  have RO := RO7
  have B := B7
  clear EO7 RO7 B7
  obtain ⟨c0, c1, c2, c3, c4, c5, c6, c7, c8, c9⟩ := EO.out.at.zero
  have f7 := EO.out.fz 7
  go_wp2_with fail
  refine (K8.out _).mono ?_
  rintro e w8 ⟨rfl, hb⟩
  have EO8 := Lib.hid ((EO.out.set (e' := ⟨k, p, l, m, u, g, t, us, gr, b⟩) 7 (.string us) rfl).below hb (by simpa using EO.out.lt))
  have RO8 := Lib.hid ((EntO.other (b := w.heap.size) (i := 7) (v := .string us) RO.out (by omega)).below hb (by simpa using RO.out.lt))
  have B8 := Lib.hid (btE (B.out.setCell (p := ⟨w.heap.size, 7, none⟩) (Nat.le_refl _) (.string us)) hb)
  clear hb EO RO B c0 c1 c2 c3 c4 c5 c6 c7 c8 c9 f7
  have EO := EO8
  have RO := RO8
  have B := B8
  clear EO8 RO8 B8
  obtain ⟨c0, c1, c2, c3, c4, c5, c6, c7, c8, c9⟩ := EO.out.at.zero
  have f8 := EO.out.fz 8
  go_wp2_with fail
  refine (K9.out _).mono ?_
  rintro e w9 ⟨rfl, hb⟩
  have EO9 := Lib.hid ((EO.out.set (e' := ⟨k, p, l, m, u, g, t, us, gr, b⟩) 8 (.string gr) rfl).below hb (by simpa using EO.out.lt))
  have RO9 := Lib.hid ((EntO.other (b := w.heap.size) (i := 8) (v := .string gr) RO.out (by omega)).below hb (by simpa using RO.out.lt))
  have B9 := Lib.hid (btE (B.out.setCell (p := ⟨w.heap.size, 8, none⟩) (Nat.le_refl _) (.string gr)) hb)
  clear hb EO RO B c0 c1 c2 c3 c4 c5 c6 c7 c8 c9 f8
  have EO := EO9
  have RO := RO9
  have B := B9
  clear EO9 RO9 B9
  obtain ⟨c0, c1, c2, c3, c4, c5, c6, c7, c8, c9⟩ := EO.out.at.zero
  have f9 := EO.out.fz 9
  have EO2 := Lib.hid (EO.out.set (e' := ⟨k, p, l, m, u, g, t, us, gr, b⟩) 9 (.string b) rfl)
  have RO2 := Lib.hid (EntO.other (b := w.heap.size) (i := 9) (v := .string b) RO.out (by omega))
  have B2 := Lib.hid (B.out.setCell (p := ⟨w.heap.size, 9, none⟩) (Nat.le_refl _) (.string b))
  obtain ⟨x0, x1, x2, x3, x4, x5, x6, x7, x8, x9⟩ := EO2.out.at.zero
  obtain ⟨d0, d1, d2, d3, d4, d5, d6, d7, d8, d9⟩ := RO2.out.at.zero
  have g0 := RO2.out.fz 0
  have g1 := RO2.out.fz 1
  have g2 := RO2.out.fz 2
  have g3 := RO2.out.fz 3
  have g4 := RO2.out.fz 4
  have g5 := RO2.out.fz 5
  have g6 := RO2.out.fz 6
  have g7 := RO2.out.fz 7
  have g8 := RO2.out.fz 8
  have g9 := RO2.out.fz 9
  go_wp2_with fail
  have RP := RO2.out.put ⟨k, p, l, m, u, g, t, us, gr, b⟩
  have BP := below_putE (g := w.heap.size + 1) B2.out (by omega) ⟨k, p, l, m, u, g, t, us, gr, b⟩
  simp only [putE] at RP BP
  exact bodyPost_ret (res_ent1 rfl _ rfl RP) rfl ⟨rfl, BP⟩
end Go.Proofs.YtlbanaakjabfnabDoor
