/- Small functions of cards in words: the padding, and whether numbers have room. -/
import Derived.Test.YtancidbbkoeokaaBinK
import Derived.Test.YtancidbbkoeokaaRegSl
import Derived.Test.YtancidbbkoeokaaNulS
import Derived.Test.YtancidbbkoeokaaIn
import Derived.Test.YtancidbbkoeokaaShelf
import Derived.Lib.Repeat
import Derived.ArgAppend
namespace Go.Proofs.Ytancidbbkoeokaa
open Go.ChangeShapes Go.WideShapes Go.ChangeAt Go.RowKit

theorem repL_nul (k : Nat) : Lib.repeatL ([0] : List UInt8) k = List.replicate k 0 := by
  induction k with
  | zero => rfl
  | succ k ih => simp [Lib.repeatL, ih, List.replicate_succ]
theorem binPad_any (n : Nat) (w : World) (hn : n ≤ 9007199254740991) : Calls Try.prog 25 #[.int .i64 (n : Int)] w fun e w' => e = .returned (.string (nulN (pad2 n))) ∧ Below w.heap.size w w' := by
  have hq := pad2_le n
  have HP := Lib.hid (fun w => pad_impl (n : Int) 2 w)
  rw [padv2 n hn] at HP
  have hr := fun w => Try.strings_Repeat ⟨#[0]⟩ (pad2 n) w (by omega) (by simp [ByteArray.size]; omega)
  have e1 : (⟨(Lib.repeatL (⟨#[0]⟩ : ByteArray).data.toList (pad2 n)).toArray⟩ : ByteArray) = nulN (pad2 n) := by
    show (⟨(Lib.repeatL ([0] : List UInt8) (pad2 n)).toArray⟩ : ByteArray) = _
    rw [repL_nul]
    rfl
  rw [e1] at hr
  have HR := Lib.hid hr
  clear hr e1
  generalize nulN (pad2 n) = r at HR
  generalize pad2 n = q at HP HR hq
  go_enter Try.func25, Try.ntmps25
  go_wp2_with fail
  refine (HP.out _).mono ?_
  rintro e w1 ⟨rfl, rfl⟩
  go_wp2_with fail
  refine (HR.out _).mono ?_
  rintro e w2 ⟨rfl, hb⟩
  go_wp2_with fail
  go_ret
  exact ⟨rfl, hb⟩
/-- A row of numbers. -/
def RowNB (w : World) (g : Nat) (l : List Int) : Prop := ∀ i x, l[i]? = some x → w.cell? ⟨g, i, none⟩ = some (.int .i64 x)
theorem RowNB.below {w w' : World} {g B : Nat} {l : List Int} (h : RowNB w g l) (hb : Below B w w') (hg : g < B) : RowNB w' g l := fun i x hx => (hb.cell (p := ⟨g, i, none⟩) hg).trans (h i x hx)
theorem RowNB.of {w : World} {g : Nat} {l : List Int} {ty : TypeId} (h : w.heap[g]? = some (.cells (l.map (fun x => Value.int .i64 x)).toArray ty (0, 0))) : RowNB w g l := by
  intro i x hx
  simp only [World.cell?, h]
  simp [hx]
/-- A row of numbers that the call has laid, of whatever capacity. -/
def appRow (B n : Nat) (L : List Int) (v : Value) (w : World) : Prop := ∃ G c, v = .slice (some ⟨G, 0, none⟩) n c ∧ B ≤ G ∧ G < w.heap.size ∧ RowNB w G L
theorem appRow_keep (B n : Nat) (L : List Int) : ∀ v x y, Below x.heap.size x y → appRow B n L v x → appRow B n L v y := by
  rintro v x y hb ⟨G, c, h1, h2, h3, h4⟩
  exact ⟨G, c, h1, h2, Nat.lt_of_lt_of_le h3 hb.size, h4.below hb h3⟩
theorem Try.infoNB : (Try.prog.info? 3).map (fun i => (i.zero, i.size, i.bytes)) = some (some (.int .i64 0), 1, 8) := by kernel_rfl
/-- One number more behind a row that is full. -/
theorem app_full (L : List Int) (x : Int) (g gx n c cx : Nat) (w : World) (ty : TypeId) (hn : n = L.length) (hc : c = n) (h : RowNB w g L) (hx : w.cell? ⟨gx, 0, none⟩ = some (.int .i64 x)) (hs : n ≤ 1000) :
    ∃ v' w', (Builtin.append_ #[40, 40] ty #[.slice (some ⟨g, 0, none⟩) n c, .slice (some ⟨gx, 0, none⟩) 1 cx]).run Try.prog w = .ok v' w' ∧ appRow w.heap.size (n + 1) (L ++ [x]) v' w' ∧ Below w.heap.size w w' := by
  obtain ⟨i0, hi, hz0, hz1, hz2⟩ := info_parts Try.infoNB
  obtain ⟨v', w', h1, h2, h3⟩ := run_append_arg_grows (P := Try.prog) (w := w) 40 ty 3 i0 (.int .i64 0) 1 8 Try.underlying40 hi hz0 hz1 hz2 rfl (by decide) ⟨g, 0, none⟩ n c (L.map (fun x => Value.int .i64 x)) (by simp [hn]) (fun j u hu => by
    rw [List.getElem?_map] at hu
    cases hL : L[j]? with
    | none => rw [hL] at hu; cases hu
    | some y =>
      rw [hL] at hu
      have := h j y hL
      simp only [Option.map_some, Option.some.injEq] at hu
      subst hu
      rw [Addr.add_lit, Nat.zero_add]; exact this) ⟨gx, 0, none⟩ 1 cx [.int .i64 x] rfl (fun j u hu => by
    match j, hu with
    | 0, hu => simp at hu; subst hu; rw [Addr.add_lit]; exact hx) (by omega) (by simp only [maxLen]; omega) (by omega)
  refine ⟨v', w', h1, ?_, ⟨h3.os, h3.tape, h3.output, h3.size, fun k hk => h3.block k hk (by simp)⟩⟩
  obtain ⟨G, cp, rfl⟩ : ∃ G cp, v' = .slice (some ⟨G, 0, none⟩) (n + 1) cp := by
    rcases h2.2 with ⟨_, h0⟩ | ⟨G, cp, _, hv, _⟩
    · omega
    · exact ⟨G, cp, hv⟩
  have hl := h2.lt G rfl
  refine ⟨G, cp, rfl, hl.1, hl.2, fun i y hy => ?_⟩
  have hlt : i < (L ++ [x]).length := (List.getElem?_eq_some_iff.1 hy).1
  rw [h2.cellAt i (by simp at hlt; omega)]
  have e : L.map (fun x => Value.int .i64 x) ++ [Value.int .i64 x] = (L ++ [x]).map (fun x => Value.int .i64 x) := by simp
  rw [e, List.getElem?_map, hy]
  rfl
/-- An append at an operation of a region that draws its order. -/
theorem op_app {P : Program} {Q : Exit → Act → World → Prop} {C : World → Prop} {St : World → World → Prop} {V : Nat → Value → World → Prop} {o : Oper} {a : Act} {w w' : World} (s x : Operand) (t : TypeId) (ho : o.op = .call { callee := .builtin .append, args := #[s, x], argTypes := #[t, t] }) (vs vx v' : Value) (hs : a.eval s = vs) (hx : a.eval x = vx)
    (hr : (Builtin.append_ #[t, t] o.type #[vs, vx]).run P w = .ok v' w') (hC : C w') (hS : St w w') (hv : ∀ d, o.dst = some d → V d v' w') :
    o.wp P a w (fun a' w' => ∃ v, a' = a.put o.dst v ∧ C w' ∧ St w w' ∧ ∀ d, o.dst = some d → V d v w') Q := by
  unfold Oper.wp execOp
  simp only [ho, resolve, invoke, builtin, Sem.run_bind, Sem.run_pure, Result.andThen_ok, List.map_toArray, List.map_cons, List.map_nil, hs, hx, hr]
  exact ⟨v', rfl, hC, hS, hv⟩
theorem all_take {f : Int → Bool} {L : List Int} {i : Nat} {x : Int} (h : L[i]? = some x) (hx : f x = true) (ht : (L.take i).all f = true) : (L.take (i + 1)).all f = true := by
  rw [List.take_add_one, h]
  simp [ht, hx]
theorem all_bad {f : Int → Bool} {L : List Int} {i : Nat} {x : Int} (h : L[i]? = some x) (hx : f x = false) : L.all f = false := by
  rw [List.all_eq_false]
  exact ⟨x, List.mem_of_getElem? h, by simp [hx]⟩
set_option maxHeartbeats 1600000 in
theorem room_any (g1 g2 n1 n2 c1 c2 : Nat) (L1 L2 : List Int) (w : World) (h1 : RowNB w g1 L1) (h2 : RowNB w g2 L2) (hn1 : L1.length = n1) (hn2 : L2.length = n2) (hs1 : n1 ≤ 1000) (hs2 : n2 ≤ 1000) :
    Calls Try.prog 19 #[.slice (some ⟨g1, 0, none⟩) n1 c1, .slice (some ⟨g2, 0, none⟩) n2 c2] w fun e w' => e = .returned (.bool (L1.all r16 && L2.all r32)) ∧ w = w' := by
  have R1 := Lib.hid h1
  have R2 := Lib.hid h2
  have HG1 : Hid (∀ i, i < n1 → ∃ x, L1[i]? = some x) := Lib.hid (fun i hi => ⟨L1[i]'(by omega), List.getElem?_eq_getElem (by omega)⟩)
  have HG2 : Hid (∀ i, i < n2 → ∃ x, L2[i]? = some x) := Lib.hid (fun i hi => ⟨L2[i]'(by omega), List.getElem?_eq_getElem (by omega)⟩)
  have HB1 := Lib.hid (fun i x (h : L1[i]? = some x) (hx : r16 x = false) => all_bad h hx)
  have HB2 := Lib.hid (fun i x (h : L2[i]? = some x) (hx : r32 x = false) => all_bad h hx)
  have HT1 := Lib.hid (fun i x (h : L1[i]? = some x) (hx : r16 x = true) ht => all_take (f := r16) h hx ht)
  have HT2 := Lib.hid (fun i x (h : L2[i]? = some x) (hx : r32 x = true) ht => all_take (f := r32) h hx ht)
  have HF1 : Hid ((L1.take n1).all r16 = true → L1.all r16 = true) := Lib.hid (fun h => by rwa [List.take_of_length_le (by omega)] at h)
  have HF2 : Hid ((L2.take n2).all r32 = true → L2.all r32 = true) := Lib.hid (fun h => by rwa [List.take_of_length_le (by omega)] at h)
  have HZ1 : Hid ((L1.take 0).all r16 = true) := Lib.hid rfl
  have HZ2 : Hid ((L2.take 0).all r32 = true) := Lib.hid rfl
  have HI1 : Hid (∀ x w, Calls Try.prog 35 #[.int .i64 x, .int .i64 0, .int .i64 65535] w fun e w' => e = .returned (.bool (r16 x)) ∧ w = w') := Lib.hid (fun x w => in_any x 0 65535 w)
  have HI2 : Hid (∀ x w, Calls Try.prog 35 #[.int .i64 x, .int .i64 0, .int .i64 4294967295] w fun e w' => e = .returned (.bool (r32 x)) ∧ w = w') := Lib.hid (fun x w => in_any x 0 4294967295 w)
  clear h1 h2 hn1 hn2
  generalize L1.all r16 = A1 at *
  generalize L2.all r32 = A2 at *
  go_enter Try.func19, Try.ntmps19
  go_wp2_with fail
  go_loopw [5] (fun i wr => ∃ k : Nat, k ≤ n1 ∧ i = .int .i64 k ∧ (L1.take k).all r16 = true ∧ wr = w) (fun i _ => n1 - (intOf i).toNat)
  case atStart => exact ⟨0, Nat.zero_le _, rfl, HZ1.out, rfl⟩
  case round =>
    obtain ⟨k, hk, rfl, hA, rfl⟩ := hrel
    have HA := Lib.hid hA
    clear hA HZ1
    by_cases hlt : k < n1
    · obtain ⟨x, hx⟩ := HG1.out k hlt
      have hlt2 : (k : Int) < (n1 : Int) := by omega
      have c0 := R1.out k x hx
      have HBx := Lib.hid (HB1.out k x hx)
      have HTx := Lib.hid (fun h => HT1.out k x hx h HA.out)
      clear hx HA HB1 HT1
      go_wp2_with fail
      refine (HI1.out _ _).mono ?_
      rintro e w1 ⟨rfl, rfl⟩
      generalize r16 x = rx at *
      cases rx with
      | true =>
        have HN := Lib.hid (HTx.out rfl)
        clear HTx HBx
        go_wp2_with fail
        go_roundw
        case rel => exact ⟨k + 1, by omega, by go_num, HN.out, by trivial⟩
        case measure => simp [intOf]; omega
      | false =>
        have HN := Lib.hid (HBx.out rfl)
        clear HTx HBx
        go_wp2_with fail
        go_ret
        exact ⟨by rw [HN.out]; rfl, by trivial⟩
    · obtain rfl : k = n1 := by omega
      have HA0 := Lib.hid (HF1.out HA.out)
      clear HA HF1 HB1 HT1 HG1
      go_wp2_with fail
      go_loopw [6] (fun i wx => ∃ k : Nat, k ≤ n2 ∧ i = .int .i64 k ∧ (L2.take k).all r32 = true ∧ wx = wr) (fun i _ => n2 - (intOf i).toNat)
      case atStart => exact ⟨0, Nat.zero_le _, rfl, HZ2.out, by trivial⟩
      case round =>
        obtain ⟨k, hk, rfl, hA, rfl⟩ := hrel
        have HA := Lib.hid hA
        clear hA HZ2
        by_cases hlt : k < n2
        · obtain ⟨x, hx⟩ := HG2.out k hlt
          have hlt2 : (k : Int) < (n2 : Int) := by omega
          have c0 := R2.out k x hx
          have HBx := Lib.hid (HB2.out k x hx)
          have HTx := Lib.hid (fun h => HT2.out k x hx h HA.out)
          clear hx HA HB2 HT2
          go_wp2_with fail
          refine (HI2.out _ _).mono ?_
          rintro e w1 ⟨rfl, rfl⟩
          generalize r32 x = rx at *
          cases rx with
          | true =>
            have HN := Lib.hid (HTx.out rfl)
            clear HTx HBx
            go_wp2_with fail
            go_roundw
            case rel => exact ⟨k + 1, by omega, by go_num, HN.out, by trivial⟩
            case measure => simp [intOf]; omega
          | false =>
            have HN := Lib.hid (HBx.out rfl)
            clear HTx HBx
            go_wp2_with fail
            go_ret
            exact ⟨by rw [HA0.out, HN.out]; rfl, by trivial⟩
        · obtain rfl : k = n2 := by omega
          have HA1 := Lib.hid (HF2.out HA.out)
          clear HA HF2 HB2 HT2 HG2
          go_wp2_with fail
          go_ret
          exact ⟨by rw [HA0.out, HA1.out]; rfl, by trivial⟩
end Go.Proofs.Ytancidbbkoeokaa
