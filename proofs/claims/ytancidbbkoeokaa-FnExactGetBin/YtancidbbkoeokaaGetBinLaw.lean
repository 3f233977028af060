/- The law laws.FnExactGetBin returns true. -/
import Derived.Test.YtancidbbkoeokaaGetBnI
import Derived.Test.YtancidbbkoeokaaGetBnS
import Derived.Test.YtancidbbkoeokaaCardQ
import Derived.Deep.WholeRow
namespace Go.Proofs.Ytancidbbkoeokaa
open Go.ChangeShapes Go.WideShapes Go.ChangeAt Go.RowKit

variable {P : Program}
theorem wpList_load_eq {ops : Array Oper} {rest : List Oper} {o : Oper} {a : Act} {w : World} {Q : Exit → Act → World → Prop} (hgd : o.guard = none) (ty : TypeId) (x : Operand) (ho : o.op = .load ty x)
    (g : Addr) (hx : a.eval x = .pointer (some g)) {v : Value} (hr : (loadVar ty g).run P w = .ok v w) (h : wpList P ops Q rest (a.put o.dst v) w) : wpList P ops Q (o :: rest) a w :=
  wpList_plain hgd fun _ hK => by
    unfold Oper.wp execOp
    simp only [ho, hx, Instr.loadAt, Instr.sureAddr, Sem.run_bind, Sem.run_pure, Result.andThen_ok, hr]
    exact hK _ _ h
theorem wpList_store_eq {ops : Array Oper} {rest : List Oper} {o : Oper} {a : Act} {w w' : World} {Q : Exit → Act → World → Prop} (hgd : o.guard = none) (ty : TypeId) (x y : Operand) (ho : o.op = .store ty x y)
    (g : Addr) (hx : a.eval x = .pointer (some g)) {v : Value} (hy : a.eval y = v) (hr : (storeVar ty g v).run P w = .ok () w') (h : wpList P ops Q rest (a.put o.dst undef) w') : wpList P ops Q (o :: rest) a w :=
  wpList_plain hgd fun _ hK => by
    unfold Oper.wp execOp
    simp only [ho, hx, hy, Instr.storeAt, Instr.sureAddr, Sem.run_bind, Sem.run_pure, Result.andThen_ok, hr]
    exact hK _ _ h
theorem obj_lt {w : World} {g : Nat} {o : Obj} (h : w.heap[g]? = some o) : g < w.heap.size := (Array.getElem?_eq_some_iff.1 h).1
abbrev zCd : Array Value := #[.int .i64 0, .int .i64 0, .int .i64 0, .int .i64 0, .int .i64 0, .int .i64 0, .string ⟨#[]⟩, .string ⟨#[]⟩]

theorem bnV_form (s : ByteArray) (i : Int) (crc : Bool) : ∃ (x0 x1 x2 x3 x4 x5 : Int) (x6 x7 : ByteArray) (n c : Int), bnV s i crc = .tuple #[.agg #[.int .i64 x0, .int .i64 x1, .int .i64 x2, .int .i64 x3, .int .i64 x4, .int .i64 x5, .string x6, .string x7], .int .i64 n, .int .i64 c] :=
  ⟨(bnCard s i crc).Ino, (bnCard s i crc).Mode, (bnCard s i crc).Uid, (bnCard s i crc).Gid, (bnCard s i crc).Count, (bnCard s i crc).Time, (bnCard s i crc).Path, (bnCard s i crc).Data, bnNext s i crc, bnCode s i crc, rfl⟩
theorem getBin_sp (s : ByteArray) (i : Int) (crc : Bool) (w : World) (hs : s.size ≤ 1048576) (hi : i ≤ 9223372036854775807) (hi0 : -9223372036854775808 ≤ i) :
    Calls Try.prog 14 #[.string s, .int .i64 i, .bool crc] w fun e w' => e = .returned (bnV s i crc) ∧ Below w.heap.size w w' := by
  by_cases h : i < 0 ∨ (s.size : Int) < i + 26
  · exact getBin_short s i crc w hs hi0 hi h
  · obtain ⟨j, rfl⟩ : ∃ j : Nat, i = j := ⟨i.toNat, by omega⟩
    exact getBin_spec s j crc w hs (by omega)
set_option maxHeartbeats 1600000 in
set_option maxRecDepth 8000 in
theorem getBin_law (s : ByteArray) (i : Int) (crc : Bool) (w : World) (hi0 : -9223372036854775808 ≤ i) (hi : i ≤ 9223372036854775807) :
    Calls Try.prog 5 #[.string s, .int .i64 i, .bool crc] w fun e w' => e = .returned (.bool true) ∧ Below w.heap.size w w' := by
  by_cases hs : (s.size : Int) ≤ 1048576
  · have S1 := Lib.hid (fun w => getBin_sp s i crc w (by omega) hi hi0)
    have S2 := Lib.hid (fun w => getBin_impl s i crc w (by omega) hi)
    obtain ⟨x0, x1, x2, x3, x4, x5, x6, x7, n, c, hg⟩ := bnV_form s i crc
    rw [hg] at S1 S2
    have HQ := Lib.hid (fun w => eqCard_self x0 x1 x2 x3 x4 x5 x6 x7 w)
    clear hg
    go_enter Try.func5, Try.ntmps5
    go_wp2_with fail
    refine (S1.out _).mono ?_
    rintro e w1 ⟨rfl, hb⟩
    have B1 := Lib.hid hb
    have HS1 := Lib.hid (run_storeVar_new (P := Try.prog) w1 33 zCd #[.int .i64 x0, .int .i64 x1, .int .i64 x2, .int .i64 x3, .int .i64 x4, .int .i64 x5, .string x6, .string x7] (by rw [Try.sizeOC]; rfl) rfl (by simp [Value.oneCell']))
    have O2 := heap_alloc_last w1 (.cells #[.int .i64 x0, .int .i64 x1, .int .i64 x2, .int .i64 x3, .int .i64 x4, .int .i64 x5, .string x6, .string x7] 33)
    have B2 := Lib.hid (B1.out.alloc B1.out.size (.cells #[.int .i64 x0, .int .i64 x1, .int .i64 x2, .int .i64 x3, .int .i64 x4, .int .i64 x5, .string x6, .string x7] 33))
    clear hb S1
    go_wp2_with ((with_reducible refine wpList_store_eq rfl 33 _ _ rfl ⟨w1.heap.size, 0, none⟩ ?_ ?_ HS1.out ?_); rfl; rfl)
    clear HS1
    generalize w1.alloc (.cells #[.int .i64 x0, .int .i64 x1, .int .i64 x2, .int .i64 x3, .int .i64 x4, .int .i64 x5, .string x6, .string x7] 33) = w2 at *
    refine (S2.out _).mono ?_
    rintro e w3 ⟨rfl, hb⟩
    have O3 := (hb.block _ (obj_lt O2)).trans O2
    have B3 := Lib.hid (B2.out.trans (hb.mono B2.out.size))
    have HS2 := Lib.hid (run_storeVar_new (P := Try.prog) w3 33 zCd #[.int .i64 x0, .int .i64 x1, .int .i64 x2, .int .i64 x3, .int .i64 x4, .int .i64 x5, .string x6, .string x7] (by rw [Try.sizeOC]; rfl) rfl (by simp [Value.oneCell']))
    have O4 := heap_alloc_last w3 (.cells #[.int .i64 x0, .int .i64 x1, .int .i64 x2, .int .i64 x3, .int .i64 x4, .int .i64 x5, .string x6, .string x7] 33)
    have B4 := Lib.hid (B3.out.alloc B3.out.size (.cells #[.int .i64 x0, .int .i64 x1, .int .i64 x2, .int .i64 x3, .int .i64 x4, .int .i64 x5, .string x6, .string x7] 33))
    have O5 := (((Below.refl w3.heap.size w3).alloc (Nat.le_refl _) (.cells #[.int .i64 x0, .int .i64 x1, .int .i64 x2, .int .i64 x3, .int .i64 x4, .int .i64 x5, .string x6, .string x7] 33)).block _ (obj_lt O3)).trans O3
    have HL1 := Lib.hid (run_loadVar_row (P := Try.prog) _ _ 33 33 _ (0, 0) _ O4 Try.underlying33 rfl (by rw [Try.sizeOC]; rfl))
    have HL2 := Lib.hid (run_loadVar_row (P := Try.prog) _ _ 33 33 _ (0, 0) _ O5 Try.underlying33 rfl (by rw [Try.sizeOC]; rfl))
    clear hb S2 O2 O3 O4 O5 B1 B2 B3
    go_wp2_with (first | ((with_reducible refine wpList_store_eq rfl 33 _ _ rfl ⟨w3.heap.size, 0, none⟩ ?_ ?_ HS2.out ?_); rfl; rfl) | ((with_reducible refine wpList_load_eq rfl 33 _ rfl ⟨w3.heap.size, 0, none⟩ ?_ HL1.out ?_); rfl) | ((with_reducible refine wpList_load_eq rfl 33 _ rfl ⟨w1.heap.size, 0, none⟩ ?_ HL2.out ?_); rfl))
    refine (HQ.out _).mono ?_
    rintro e w5 ⟨rfl, hb⟩
    have B5 := Lib.hid (B4.out.trans (hb.mono B4.out.size))
    clear hb
    go_wp2_with fail
    go_ret
    exact ⟨rfl, B5.out⟩
  · go_enter Try.func5, Try.ntmps5
    go_wp2_with fail
    go_ret
    exact ⟨rfl, Below.refl _ _⟩
end Go.Proofs.Ytancidbbkoeokaa
