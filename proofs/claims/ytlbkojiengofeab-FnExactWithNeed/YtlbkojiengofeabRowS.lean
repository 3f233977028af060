/- Contracts of laws.eqStringS, laws.markStringS, laws.heldStringS on rows of texts. -/
import Derived.Test.YtlbkojiengofeabMarkT
import Derived.WalkSmall
import Derived.Deep.RegionWith
namespace Go.Proofs.Ytlbkojiengofeab
open Go.ChangeShapes Go.WideShapes Go.ChangeAt Go.RowKit

/-- The n cells of block g are the texts R 0, R 1, ... -/
def RowF (w : World) (g n : Nat) (R : Nat → ByteArray) : Prop := ∀ i, i < n → w.cell? ⟨g, i, none⟩ = some (.string (R i))
theorem RowF.below {w w' : World} {g n B : Nat} {R : Nat → ByteArray} (h : RowF w g n R) (hb : Below B w w') (hg : g < B) : RowF w' g n R :=
  fun i hi => (hb.cell (p := ⟨g, i, none⟩) hg).trans (h i hi)
def OwnT (w : World) (base : Nat) (v : Value) (n : Nat) (xs : List Value) : Prop := w.ownsRow base 9 1 v n xs
theorem OwnT.below {w w' : World} {base g n cap B : Nat} {xs : List Value} (h : OwnT w base (.slice (some ⟨g, 0, none⟩) n cap) n xs) (hb : Below B w w') (hg : g < B) : OwnT w' base (.slice (some ⟨g, 0, none⟩) n cap) n xs := by
  refine ⟨h.1, ?_⟩
  rcases h.2 with ⟨h', _⟩ | ⟨g', cap', cur, h', hx, hgg, rest⟩
  · simp at h'
  · simp only [Value.slice.injEq, Option.some.injEq, Addr.mk.injEq, and_true, true_and] at h'
    obtain ⟨rfl, rfl⟩ := h'
    exact .inr ⟨g, cap, cur, rfl, hx, (hb.block g hg).trans hgg, rest⟩
theorem OwnT.cellv {w : World} {base g n cap : Nat} {xs : List Value} (h : OwnT w base (.slice (some ⟨g, 0, none⟩) n cap) n xs) (i : Nat) (hi : i < n) : w.cell? ⟨g, i, none⟩ = some (xs.getD i (.bool true)) := by
  have h1 := h.1
  rw [World.ownsRow.cellAt h i (by omega)]
  simp [List.getD, List.getElem?_eq_getElem (show i < xs.length by omega)]
theorem self_eq (a : ByteArray) : (a.toList == a.toList) = true := by simp
theorem bl_chain {w x w1 : World} (h1 : Below x.heap.size x w1) (os : x.os = w.os) (tape : x.tape = w.tape) (out : x.output = w.output) (hs : w.heap.size ≤ x.heap.size) (B : Nat) (hB : B ≤ x.heap.size) (hb : ∀ k, k < B → x.heap[k]? = w.heap[k]?) : Below B w w1 :=
  ⟨h1.os.trans os, h1.tape.trans tape, h1.output.trans out, Nat.le_trans hs h1.size, fun k hk => (h1.block k (Nat.lt_of_lt_of_le hk hB)).trans (hb k hk)⟩
theorem kept_cell {x w1 : World} {g k : Nat} {t : Value} (h1 : Below x.heap.size x w1) (hg : g < x.heap.size) (hc : x.cell? ⟨g, k, none⟩ = .some t) : w1.cell? ⟨g, k, none⟩ = .some t := (h1.cell (p := ⟨g, k, none⟩) hg).trans hc
def mk1 (i : Nat) : ByteArray := markv (i + 1)

theorem eqS_any (R : Nat → ByteArray) (n g g2 ca cb : Nat) (w : World) (hn : n ≤ 2097152) (hg : g < w.heap.size) (hg2 : g2 < w.heap.size) (h1 : RowF w g n R) (h2 : RowF w g2 n R) :
    Calls Try.prog 16 #[.slice (some ⟨g, 0, none⟩) n ca, .slice (some ⟨g2, 0, none⟩) n cb] w fun e w' => e = .returned (.bool true) ∧ Below w.heap.size w w' := by
  have H1 := Lib.hid h1
  have H2 := Lib.hid h2
  clear h1 h2
  go_enter Try.func16, Try.ntmps16
  go_wp2
  go_loopw [5] (fun i wr => ∃ k : Nat, k ≤ n ∧ i = .int .i64 k ∧ Below w.heap.size w wr) (fun i _ => n - (intOf i).toNat)
  case atStart => exact ⟨0, Nat.zero_le _, rfl, Below.refl _ _⟩
  case round =>
    obtain ⟨k, hk, rfl, hb⟩ := hrel
    have HB := Lib.hid hb
    clear hb
    by_cases hlt : k < n
    · have c1 : wr.cell? ⟨g, k, none⟩ = some (.string (R k)) := (H1.out.below HB.out hg) k hlt
      have c2 : wr.cell? ⟨g2, k, none⟩ = some (.string (R k)) := (H2.out.below HB.out hg2) k hlt
      have he := self_eq (R k)
      generalize R k = x at c1 c2 he
      go_wp2
      go_quiet (fail)
      go_wp2
      go_roundw
      case rel => exact ⟨k + 1, by omega, by go_num, HB.out.os, HB.out.tape, HB.out.output, HB.out.size, HB.out.block⟩
      case measure => simp [intOf]; omega
    · go_wp2
      go_ret
      exact ⟨rfl, HB.out⟩

theorem heldS_any (n g cap : Nat) (w : World) (hn : n ≤ 2097152) (hg : g < w.heap.size) (h1 : RowF w g n mk1) :
    Calls Try.prog 18 #[.slice (some ⟨g, 0, none⟩) n cap, .int .i64 1] w fun e w' => e = .returned (.int .i64 ((n : Int) + 1)) ∧ Below w.heap.size w w' := by
  have H1 := Lib.hid h1
  clear h1
  go_enter Try.func18, Try.ntmps18
  go_wp2
  go_loopw [1, 5] (fun x i wr => ∃ k : Nat, k ≤ n ∧ x = .int .i64 ((k : Int) + 1) ∧ i = .int .i64 k ∧ Below w.heap.size w wr) (fun _ i _ => n - (intOf i).toNat)
  case atStart => exact ⟨0, Nat.zero_le _, rfl, rfl, Below.refl _ _⟩
  case round =>
    obtain ⟨k, hk, rfl, rfl, hb⟩ := hrel
    have HB := Lib.hid hb
    clear hb
    by_cases hlt : k < n
    · have c1 : wr.cell? ⟨g, k, none⟩ = some (.string (mk1 k)) := (H1.out.below HB.out hg) k hlt
      have hmt := fun w => markText_any (k + 1) w (by omega) (by omega)
      have hlt2 : (k : Int) < (n : Int) := by omega
      rw [show markv (k + 1) = mk1 k from rfl, show (((k + 1 : Nat)) : Int) = (k : Int) + 1 from by omega] at hmt
      have HMT := Lib.hid hmt
      have he := self_eq (mk1 k)
      have hsz := HB.out.size
      have hgr : g < wr.heap.size := by omega
      clear hmt
      generalize mk1 k = x at c1 HMT he
      go_wp2_with fail
      go_region_with (go_at_call 48; refine (HMT.out _).mono ?_; rintro e w1 ⟨rfl, hb1⟩; have c2 := kept_cell hb1 hgr c1; have B1 := Lib.hid (bl_chain hb1 HB.out.os HB.out.tape HB.out.output hsz w.heap.size hsz HB.out.block); clear hb1)
      all_goals
        go_wp2
        go_roundw
        case rel => exact ⟨k + 1, by omega, by go_num, by go_num, B1.out.os, B1.out.tape, B1.out.output, B1.out.size, B1.out.block⟩
        case measure => simp [intOf]; omega
    · go_wp2
      go_ret
      obtain rfl : k = n := by omega
      exact ⟨rfl, HB.out⟩

/-- The first k texts are the marks. -/
def Marked (ys : List Value) (k : Nat) : Prop := ∀ i, i < k → ys[i]? = some (.string (mk1 i))
theorem Marked.step {ys : List Value} {k : Nat} (h : Marked ys k) (hk : k < ys.length) : Marked (ys.set k (.string (mk1 k))) (k + 1) := by
  intro i hi
  by_cases e : i = k
  · subst e; simp [hk]
  · rw [List.getElem?_set_ne (Ne.symm e)]; exact h i (by omega)
theorem Marked.row {w : World} {base g n cap : Nat} {ys : List Value} (h : Marked ys n) (ho : OwnT w base (.slice (some ⟨g, 0, none⟩) n cap) n ys) : RowF w g n mk1 :=
  fun i hi => (World.ownsRow.cellAt ho i (by omega)).trans (h i hi)

theorem markS_any (n g cap : Nat) (xs : List Value) (w : World) (hn : n ≤ 2097152) (h1 : OwnT w g (.slice (some ⟨g, 0, none⟩) n cap) n xs) :
    Calls Try.prog 17 #[.slice (some ⟨g, 0, none⟩) n cap, .int .i64 1] w fun e w' => e = .returned (.int .i64 ((n : Int) + 1)) ∧ RowF w' g n mk1 ∧ g < w'.heap.size ∧ Below g w w' := by
  have H1 := Lib.hid h1
  clear h1
  go_enter Try.func17, Try.ntmps17
  go_wp2
  go_loopw [1, 5] (fun x i wr => ∃ (k : Nat) (ys : List Value), k ≤ n ∧ x = .int .i64 ((k : Int) + 1) ∧ i = .int .i64 k ∧ OwnT wr g (.slice (some ⟨g, 0, none⟩) n cap) n ys ∧ Marked ys k ∧ Below g w wr) (fun _ i _ => n - (intOf i).toNat)
  case atStart => exact ⟨0, xs, Nat.zero_le _, rfl, rfl, H1.out, fun i hi => by omega, Below.refl _ _⟩
  case round =>
    obtain ⟨k, ys, hk, rfl, rfl, ho, hr, hb⟩ := hrel
    have HB := Lib.hid hb
    have HO := Lib.hid ho
    have HR := Lib.hid hr
    have hgr : g < wr.heap.size := (World.ownsRow.lt ho g rfl).2
    have hys : ys.length = n := by have := ho.1; omega
    clear hb ho hr
    by_cases hlt : k < n
    · have hmt := fun w => markText_any (k + 1) w (by omega) (by omega)
      have hlt2 : (k : Int) < (n : Int) := by omega
      rw [show markv (k + 1) = mk1 k from rfl, show (((k + 1 : Nat)) : Int) = (k : Int) + 1 from by omega] at hmt
      have HMT := Lib.hid hmt
      have HST := Lib.hid (HR.out.step (by omega))
      have hc := HO.out.cellv k hlt
      have hgle : g ≤ wr.heap.size := by omega
      clear hmt
      generalize mk1 k = x at HMT HST
      generalize ys.getD k (.bool true) = y at hc
      go_wp2_with fail
      refine (HMT.out _).mono ?_
      rintro e w1 ⟨rfl, hb1⟩
      have c2 := kept_cell hb1 hgr hc
      have B1 := Lib.hid (bl_chain hb1 HB.out.os HB.out.tape HB.out.output HB.out.size g hgle HB.out.block)
      have O1 := Lib.hid (OwnT.below HO.out hb1 hgr)
      have f1 := World.ownsRow.frozenAt O1.out k
      clear hb1 hc
      go_wp2
      go_roundw
      case rel => exact ⟨k + 1, _, by omega, by go_num, by go_num, (World.ownsRow.stored O1.out k (.string x)).1, HST.out, B1.out.setCell (Nat.le_refl _) _⟩
      case measure => simp [intOf]; omega
    · go_wp2
      go_ret
      obtain rfl : k = n := by omega
      exact ⟨rfl, HR.out.row HO.out, hgr, HB.out⟩
end Go.Proofs.Ytlbkojiengofeab
