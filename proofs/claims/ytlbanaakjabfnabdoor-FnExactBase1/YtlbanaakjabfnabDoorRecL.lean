/- Slices of Record: laws.toRecordS, laws.szRecordS; rows of them in memory as lists (RowR, OwnR). -/
import Derived.Test.YtlbanaakjabfnabDoorRecA
import Derived.OwnWalk
import Derived.Maps.AppendAt
namespace Go.Proofs.YtlbanaakjabfnabDoor
open Go.ChangeShapes Go.WideShapes Go.ChangeAt Go.RowKit Go.Deep

theorem Tryd.infoR : (Tryd.prog.info? 44).map (fun i => (i.zero, i.size, i.bytes)) = some (some (.agg #[.string ⟨#[]⟩, .string ⟨#[]⟩]), 2, 32) := by kernel_rfl
theorem atR {w : World} {x : Addr} {n : Nat} {e : Rec} (h : ∀ j, j < 2 → w.cell? (x.add (n + j)) = e.cells[j]?) : w.cell? (x.add n) = some (.string e.key) ∧ w.cell? ⟨(x.add n).block, (x.add n).off + 1, none⟩ = some (.string e.value) := by
  refine ⟨h 0 (by omega), ?_⟩
  · exact (congrArg w.cell? (add_add x n 1)).trans (h 1 (by omega))
def zeroR : Rec := ⟨⟨#[]⟩, ⟨#[]⟩⟩
def setR (ys : List Value) (o : Nat) (e : Rec) : List Value := ((ys.set o (.string e.key)).set (o + 1) (.string e.value))
def FillR (ys : List Value) (n : Nat) (E : Nat → Rec) : Prop := ∀ k, k < n → ∀ j, j < 2 → ys[k * 2 + j]? = (E k).cells[j]?
theorem setR_in (ys : List Value) (o : Nat) (e : Rec) (h : o + 2 ≤ ys.length) (j : Nat) (hj : j < 2) : (setR ys o e)[o + j]? = e.cells[j]? := by
  match j, hj with
  | 0, _ => simp [setR, Rec.cells, List.getElem?_set]; try omega
  | 1, _ => simp [setR, Rec.cells, List.getElem?_set]; try omega
theorem setR_out (ys : List Value) (o : Nat) (e : Rec) (m : Nat) (hm : m < o) : (setR ys o e)[m]? = ys[m]? := by
  simp only [setR]
  rw [List.getElem?_set_ne (by omega), List.getElem?_set_ne (by omega)]
theorem FillR.step {ys : List Value} {i : Nat} {E : Nat → Rec} (h : FillR ys i E) (hl : i * 2 + 2 ≤ ys.length) : FillR (setR ys (i * 2) (E i)) (i + 1) E := by
  intro k hk j hj
  by_cases e : k = i
  · subst e; exact setR_in ys _ _ hl j hj
  · rw [setR_out _ _ _ _ (by omega)]; exact h k (by omega) j hj
def putR (w : World) (g o : Nat) (e : Rec) : World := ((w.setCell ⟨g, o, none⟩ (.string e.key)).setCell ⟨g, o + 1, none⟩ (.string e.value))
theorem own_putR {w : World} {base g n cap : Nat} {ty : TypeId} {ys : List Value} (h : w.ownsRow base ty 2 (.slice (some ⟨g, 0, none⟩) n cap) n ys) (o : Nat) (e : Rec) : (putR w g o e).ownsRow base ty 2 (.slice (some ⟨g, 0, none⟩) n cap) n (setR ys o e) :=
  (World.ownsRow.stored (World.ownsRow.stored h o _).1 (o + 1) _).1
theorem below_putR {w w' : World} {B g : Nat} (h : Below B w w') (hg : B ≤ g) (o : Nat) (e : Rec) : Below B w (putR w' g o e) :=
  ((h.setCell (p := ⟨g, o, none⟩) hg _).setCell (p := ⟨g, o + 1, none⟩) hg _)
theorem own_cellR {w : World} {base g n cap : Nat} {e : TypeId} {ys : List Value} (h : w.ownsRow base e 2 (.slice (some ⟨g, 0, none⟩) n cap) n ys) {i : Nat} (hi : i < n) (j : Nat) (hj : j < 2) : ∃ y, w.cell? ⟨g, i * 2 + j, none⟩ = some y := by
  rcases h.2 with ⟨h', _⟩ | ⟨g', cap', cur, h', _, hg, hnc, _, hcs, _⟩
  · simp at h'
  · simp only [Value.slice.injEq, Option.some.injEq, Addr.mk.injEq, and_true, true_and] at h'
    obtain ⟨rfl, rfl⟩ := h'
    have hlt : i * 2 + j < cur.size := by omega
    exact ⟨cur[i * 2 + j], by simp [World.cell?, hg, Array.getElem?_eq_getElem hlt]⟩
theorem cell_blkR {w : World} {a : Addr} {v : Value} (h : w.cell? a = some v) : a.block < w.heap.size := by
  by_cases hb : a.block < w.heap.size
  · exact hb
  · exfalso
    unfold World.cell? at h
    rw [Array.getElem?_eq_none (by omega)] at h
    cases a.spot <;> simp_all
theorem toRecS_some (x : Addr) (len cap : Nat) (es : List Rec) (w : World) (hR : IsRowR w (some x) len cap es) (hlen : len ≤ 1048576) :
    Calls Tryd.prog 15 #[.slice (some x) len cap] w fun e w' => ∃ ys, e = .returned (.slice (some ⟨w.heap.size, 0, none⟩) len len) ∧ w'.ownsRow w.heap.size 44 2 (.slice (some ⟨w.heap.size, 0, none⟩) len len) len ys ∧ FillR ys len (fun i => es.getD i zeroR) ∧ Below w.heap.size w w' := by
  have HE : Hid (∀ i, i < len → (∀ j, j < 2 → w.cell? (x.add (i * 2 + j)) = ((fun i => es.getD i zeroR) i).cells[j]? ∧ (x.add (i * 2 + j)).block < w.heap.size) ∧ ((fun i => es.getD i zeroR) i).wf) := Lib.hid (by
    rcases hR with ⟨h, _⟩ | ⟨y, hy, hl, _, hn, hc⟩
    · cases h
    · obtain rfl : x = y := by simpa using hy
      intro i hi
      have hi' : i < es.length := by omega
      show (∀ j, j < 2 → w.cell? (x.add (i * 2 + j)) = (es.getD i zeroR).cells[j]? ∧ _) ∧ (es.getD i zeroR).wf
      rw [show es.getD i zeroR = es[i] by simp [List.getD, List.getElem?_eq_getElem hi']]
      refine ⟨fun j hj => ⟨(hc i hi').1 j hj, ?_⟩, (hc i hi').2⟩
      have h1 := (hc i hi').1 j hj
      have hsome : ∃ v, w.cell? (x.add (i * 2 + j)) = some v := by
        rw [h1]
        exact ⟨_, List.getElem?_eq_getElem (by show j < 2; exact hj)⟩
      obtain ⟨v, hv⟩ := hsome
      exact cell_blkR hv)
  clear hR
  generalize (fun i => es.getD i zeroR) = E at *
  obtain ⟨i0, hi0, hz0, hz1, hz2⟩ := info_parts Tryd.infoR
  go_enter Tryd.func15, Tryd.ntmps15
  go_wp2_with (at_make; refine wpList_make_full _ rfl _ _ 26 rfl w.heap.size 44 i0 _ 2 Tryd.underlying26 hi0 hz0 hz1 .i64 .i64 (len : Int) (len : Int) len rfl rfl rfl rfl (by rw [hz2]; omega) (by simp only [maxLen]; omega) (Nat.le_refl _) ?_)
  intro w0 hown0 hg0
  have O0 := Lib.hid hown0
  have B0 : Hid (Below w.heap.size w w0) := Lib.hid ((Below.refl _ _).grown hg0 (Nat.le_refl _) (fun b hb => by cases hb))
  clear hown0 hg0
  go_wp2_with fail
  go_loopw [4] (fun u wr => ∃ (i : Nat) (ys : List Value), u = .int .i64 i ∧ i ≤ len ∧ wr.ownsRow w.heap.size 44 2 (.slice (some ⟨w.heap.size, 0, none⟩) len len) len ys ∧ FillR ys i E ∧ Below w.heap.size w wr) (fun u _ => len - (intOf u).toNat)
  case atStart => exact ⟨0, _, rfl, Nat.zero_le _, O0.out, fun k hk => by omega, B0.out⟩
  case round =>
    obtain ⟨i, ys, rfl, hi, ho, hf, hb⟩ := hrel
    have HF := Lib.hid hf
    have HO := Lib.hid ho
    have HB := Lib.hid hb
    clear ho hb hf O0 B0
    by_cases hlt : i < len
    · have hlt2 : (i : Int) < (len : Int) := by omega
      have he := (HE.out i hlt).1
      have HS := Lib.hid (HF.out.step (by rw [HO.out.1]; omega))
      have hsz := HO.out.1
      clear HF
      generalize E i = e at he HS
      have c0 := atR (fun j hj => (HB.out.cell (he j hj).2).trans (he j hj).1)
      obtain ⟨c0, c1⟩ := c0
      clear he
      obtain ⟨x0, x1⟩ := e
      go_wp2_with fail
      refine (toRec_any _ _ _).mono ?_
      rintro e w2 ⟨rfl, hb2⟩
      have HO2 := Lib.hid (World.ownsRow.kept HO.out (w' := w2) (row := none) ⟨hb2.os, hb2.tape, hb2.output, hb2.size, fun k hk _ => hb2.block k hk⟩ (.inr (by simp [Value.ownBlock])))
      have HB2 := Lib.hid (HB.out.trans (hb2.mono HB.out.size))
      clear hb2 HO HB c0 c1
      have f0 := World.ownsRow.frozenAt HO2.out (i * 2)
      have f1 := World.ownsRow.frozenAt HO2.out (i * 2 + 1)
      obtain ⟨y0, d0⟩ := own_cellR HO2.out hlt 0 (by omega)
      rw [Nat.add_zero] at d0
      obtain ⟨y1, d1⟩ := own_cellR HO2.out hlt 1 (by omega)
      go_wp2_with fail
      go_roundw
      case rel => exact ⟨i + 1, _, by go_num, by omega, own_putR HO2.out (i * 2) ⟨x0, x1⟩, HS.out, below_putR HB2.out (Nat.le_refl _) (i * 2) ⟨x0, x1⟩⟩
      case measure => simp [intOf]; omega
    · obtain rfl : i = len := by omega
      have hlt2 : ¬ (i : Int) < (i : Int) := by omega
      go_wp2_with fail
      go_ret
      exact ⟨rfl, ys, HO.out, HF.out, HB.out⟩
theorem toRecS_nil (w : World) :
    Calls Tryd.prog 15 #[.slice none 0 0] w fun e w' => ∃ ys, e = .returned (.slice (some ⟨w.heap.size, 0, none⟩) 0 0) ∧ w'.ownsRow w.heap.size 44 2 (.slice (some ⟨w.heap.size, 0, none⟩) 0 0) 0 ys ∧ Below w.heap.size w w' := by
  obtain ⟨i0, hi0, hz0, hz1, hz2⟩ := info_parts Tryd.infoR
  go_enter Tryd.func15, Tryd.ntmps15
  go_wp2_with (at_make; refine wpList_make_full _ rfl _ _ 26 rfl w.heap.size 44 i0 _ 2 Tryd.underlying26 hi0 hz0 hz1 .i64 .i64 0 0 0 rfl rfl rfl rfl (by omega) (Nat.zero_le _) (Nat.le_refl _) ?_)
  intro w0 hown0 hg0
  have O0 := Lib.hid hown0
  have B0 : Hid (Below w.heap.size w w0) := Lib.hid ((Below.refl _ _).grown hg0 (Nat.le_refl _) (fun b hb => by cases hb))
  clear hown0 hg0
  go_wp2_with fail
  go_loopw [4] (fun u wr => u = .int .i64 0 ∧ wr = w0) (fun _ _ => 0)
  case atStart => exact ⟨rfl, rfl⟩
  case round =>
    obtain ⟨rfl, rfl⟩ := hrel
    go_wp2_with fail
    go_ret
    exact ⟨_, rfl, O0.out, B0.out⟩
theorem toRecS_any (a : Option Addr) (len cap : Nat) (es : List Rec) (w : World) (hR : IsRowR w a len cap es) (hlen : len ≤ 1048576) :
    Calls Tryd.prog 15 #[.slice a len cap] w fun e w' => ∃ ys, e = .returned (.slice (some ⟨w.heap.size, 0, none⟩) len len) ∧ w'.ownsRow w.heap.size 44 2 (.slice (some ⟨w.heap.size, 0, none⟩) len len) len ys ∧ FillR ys len (fun i => es.getD i zeroR) ∧ Below w.heap.size w w' := by
  cases a with
  | some x => exact toRecS_some x len cap es w hR hlen
  | none =>
    rcases hR with ⟨_, rfl, rfl, rfl⟩ | ⟨y, hy, _⟩
    · refine (toRecS_nil w).mono ?_
      rintro e w' ⟨ys, rfl, ho, hb⟩
      exact ⟨ys, rfl, ho, fun k hk => by omega, hb⟩
    · cases hy
/-- The letters of its texts. -/
def szR (e : Rec) : Nat := e.key.size + e.value.size
def totRf (E : Nat → Rec) : Nat → Nat
  | 0 => 0
  | n + 1 => totRf E n + szR (E n)
theorem szvR_eq (x0 : ByteArray) (x1 : ByteArray) (left : Int) : szvR x0 x1 left = if left < (szR ⟨x0, x1⟩ : Int) then -1 else left - (szR ⟨x0, x1⟩ : Int) := by
  have : (szR ⟨x0, x1⟩ : Int) = (x0.size : Int) + (x1.size : Int) := by simp [szR]
  rw [this]; rfl
def SzSR (E : Nat → Rec) (len : Nat) (left : Int) (w : World) (e : Ending) (w' : World) : Prop :=
  (∃ r : Int, e = .returned (.int .i64 r) ∧ (r = -1 ∨ 0 ≤ r ∧ (len : Int) + totRf E len + r = left)) ∧ Below w.heap.size w w'
set_option maxHeartbeats 1600000 in
theorem szRecS_some (x : Addr) (len cap : Nat) (es : List Rec) (left : Int) (w : World) (hR : IsRowR w (some x) len cap es) (h0 : 0 ≤ left) (h1 : left ≤ 1048576) :
    Calls Tryd.prog 13 #[.slice (some x) len cap, .int .i64 left] w (SzSR (fun i => es.getD i zeroR) len left w) := by
  have hmx : (len : Int) ≤ 9223372036854775807 := by
    rcases hR with ⟨h, _⟩ | ⟨y, _, hl, hm, _⟩
    · cases h
    · simp only [maxLen] at hm; omega
  have HE : Hid (∀ i, i < len → (∀ j, j < 2 → w.cell? (x.add (i * 2 + j)) = ((fun i => es.getD i zeroR) i).cells[j]? ∧ (x.add (i * 2 + j)).block < w.heap.size) ∧ ((fun i => es.getD i zeroR) i).wf) := Lib.hid (by
    rcases hR with ⟨h, _⟩ | ⟨y, hy, hl, _, hn, hc⟩
    · cases h
    · obtain rfl : x = y := by simpa using hy
      intro i hi
      have hi' : i < es.length := by omega
      show (∀ j, j < 2 → w.cell? (x.add (i * 2 + j)) = (es.getD i zeroR).cells[j]? ∧ _) ∧ (es.getD i zeroR).wf
      rw [show es.getD i zeroR = es[i] by simp [List.getD, List.getElem?_eq_getElem hi']]
      refine ⟨fun j hj => ⟨(hc i hi').1 j hj, ?_⟩, (hc i hi').2⟩
      have h1 := (hc i hi').1 j hj
      have hsome : ∃ v, w.cell? (x.add (i * 2 + j)) = some v := by
        rw [h1]
        exact ⟨_, List.getElem?_eq_getElem (by show j < 2; exact hj)⟩
      obtain ⟨v, hv⟩ := hsome
      exact cell_blkR hv)
  clear hR
  generalize (fun i => es.getD i zeroR) = E at *
  by_cases hneg : left - (len : Int) < 0
  · go_enter Tryd.func13, Tryd.ntmps13
    go_wp2_with fail
    go_ret
    exact ⟨⟨-1, rfl, .inl rfl⟩, Below.refl _ _⟩
  · go_enter Tryd.func13, Tryd.ntmps13
    go_wp2_with fail
    go_loopw [1, 5] (fun v u wr => ∃ (i : Nat) (l : Int), v = .int .i64 l ∧ u = .int .i64 i ∧ i ≤ len ∧ 0 ≤ l ∧ (len : Int) + totRf E i + l = left ∧ Below w.heap.size w wr) (fun _ u _ => len - (intOf u).toNat)
    case atStart => exact ⟨0, left - len, rfl, rfl, Nat.zero_le _, by omega, by simp only [totRf]; omega, Below.refl _ _⟩
    case round =>
      obtain ⟨i, l, rfl, rfl, hi, hl, ht, hb⟩ := hrel
      have HB := Lib.hid hb
      have HT := Lib.hid ht
      have hll : l ≤ 1048576 := by omega
      clear hb ht
      by_cases hlt : i < len
      · have hlt2 : (i : Int) < (len : Int) := by omega
        obtain ⟨he, hw⟩ := HE.out i hlt
        have c0 := atR (fun j hj => (HB.out.cell (he j hj).2).trans (he j hj).1)
        have HN : Hid (totRf E (i + 1) = totRf E i + szR (E i)) := Lib.hid rfl
        generalize E i = e at he hw c0 HN
        obtain ⟨c0, c1⟩ := c0
        clear he
        obtain ⟨x0, x1⟩ := e
        have HZ := Lib.hid (szvR_eq x0 x1 l)
        obtain ⟨w0, w1⟩ := hw
        have HC := Lib.hid (fun w => szRec_any x0 x1 l w w0 w1 hl hll)
        generalize szvR x0 x1 l = r at HZ HC
        clear w0 w1
        go_wp2_with fail
        refine (HC.out _).mono ?_
        rintro e w2 ⟨rfl, hb2⟩
        have HB2 := Lib.hid (HB.out.trans (hb2.mono HB.out.size))
        clear hb2 HB HC
        by_cases hr : r < 0
        · go_wp2_with fail
          go_ret
          exact ⟨⟨-1, rfl, .inl rfl⟩, HB2.out⟩
        · have HF : Hid (r = l - (szR ⟨x0, x1⟩ : Int)) := Lib.hid (by
            have h := HZ.out
            split at h
            · omega
            · exact h)
          go_wp2_with fail
          go_roundw
          case rel => exact ⟨i + 1, r, rfl, by go_num, by omega, by omega, by have h2 := HF.out; have h3 := HN.out; have h4 := HT.out; rw [h3]; omega, HB2.out⟩
          case measure => simp [intOf]; omega
      · obtain rfl : i = len := by omega
        have hlt2 : ¬ (i : Int) < (i : Int) := by omega
        go_wp2_with fail
        go_ret
        exact ⟨⟨l, rfl, .inr ⟨hl, HT.out⟩⟩, HB.out⟩
theorem szRecS_nil (left : Int) (w : World) (h0 : 0 ≤ left) (h1 : left ≤ 1048576) :
    Calls Tryd.prog 13 #[.slice none 0 0, .int .i64 left] w fun e w' => e = .returned (.int .i64 left) ∧ Below w.heap.size w w' := by
  go_enter Tryd.func13, Tryd.ntmps13
  go_wp2_with fail
  go_loopw [1, 5] (fun v u wr => v = .int .i64 left ∧ u = .int .i64 0 ∧ wr = w) (fun _ _ _ => 0)
  case atStart => exact ⟨rfl, rfl, rfl⟩
  case round =>
    obtain ⟨rfl, rfl, rfl⟩ := hrel
    go_wp2_with fail
    go_ret
    exact ⟨rfl, Below.refl _ _⟩
theorem szRecS_any (a : Option Addr) (len cap : Nat) (es : List Rec) (left : Int) (w : World) (hR : IsRowR w a len cap es) (h0 : 0 ≤ left) (h1 : left ≤ 1048576) :
    Calls Tryd.prog 13 #[.slice a len cap, .int .i64 left] w (SzSR (fun i => es.getD i zeroR) len left w) := by
  cases a with
  | some x => exact szRecS_some x len cap es left w hR h0 h1
  | none =>
    rcases hR with ⟨_, rfl, rfl, rfl⟩ | ⟨y, hy, _⟩
    · refine (szRecS_nil left w h0 h1).mono ?_
      rintro e w' ⟨rfl, hb⟩
      exact ⟨⟨left, rfl, .inr ⟨h0, by simp [totRf]⟩⟩, hb⟩
    · cases hy
def valsR (L : List Rec) : List Value := L.flatMap Rec.cells
theorem cells_lenR (e : Rec) : e.cells.length = 2 := rfl
theorem valsR_len (L : List Rec) : (valsR L).length = L.length * 2 := by
  induction L with
  | nil => rfl
  | cons e L ih => simp only [valsR, List.flatMap_cons, List.length_append, cells_lenR, List.length_cons] at ih ⊢; omega
theorem valsR_app (L M : List Rec) : valsR (L ++ M) = valsR L ++ valsR M := by simp [valsR]
theorem valsR_one (e : Rec) : valsR [e] = e.cells := by simp [valsR]
theorem valsR_get (L : List Rec) (i j : Nat) (hj : j < 2) : (valsR L)[i * 2 + j]? = L[i]?.bind (fun e => e.cells[j]?) := by
  induction L generalizing i with
  | nil => simp [valsR]
  | cons e L ih =>
    simp only [valsR, List.flatMap_cons] at ih ⊢
    cases i with
    | zero =>
      rw [List.getElem?_append_left (by rw [cells_lenR]; omega)]
      simp
    | succ i =>
      rw [List.getElem?_append_right (by rw [cells_lenR]; omega), cells_lenR, show (i + 1) * 2 + j - 2 = i * 2 + j from by omega, ih]
      simp
theorem valsR_onecell (L : List Rec) : ∀ u ∈ valsR L, u.oneCell' = true := by
  intro u hu
  simp only [valsR, List.mem_flatMap] at hu
  obtain ⟨e, _, he⟩ := hu
  simp only [Rec.cells, List.mem_cons, List.not_mem_nil, or_false] at he
  rcases he with rfl | rfl <;> rfl
/-- The cells of block g, from its first on, are the list. -/
def RowR (w : World) (g : Nat) (L : List Rec) : Prop := ∀ k u, (valsR L)[k]? = some u → w.cell? ⟨g, k, none⟩ = some u
theorem RowR.below {w w' : World} {g B : Nat} {L : List Rec} (h : RowR w g L) (hb : Below B w w') (hg : g < B) : RowR w' g L :=
  fun k u hu => (hb.cell (p := ⟨g, k, none⟩) hg).trans (h k u hu)
theorem RowR.grown {w w' : World} {g : Nat} {row : Option Nat} {L : List Rec} (h : RowR w g L) (hb : w.grownBy w' row) (hg : some g ≠ row) : RowR w' g L :=
  fun k u hu => hb.cell (h k u hu) hg
theorem RowR.cols {w : World} {g : Nat} {L : List Rec} (h : RowR w g L) {i : Nat} {e : Rec} (hi : L[i]? = some e) : w.cell? ⟨g, i * 2, none⟩ = some (.string e.key) ∧ w.cell? ⟨g, i * 2 + 1, none⟩ = some (.string e.value) := by
  have H : ∀ j u, j < 2 → e.cells[j]? = some u → w.cell? ⟨g, i * 2 + j, none⟩ = some u := fun j u hj hu => h _ u (by rw [valsR_get _ _ _ hj, hi]; exact hu)
  exact ⟨H 0 _ (by omega) rfl, H 1 _ (by omega) rfl⟩
/-- A row of the call's own that is not nil. -/
def OwnR (w : World) (base : Nat) (v : Value) (L : List Rec) : Prop := w.ownsRow base 44 2 v L.length (valsR L) ∧ ∃ g cap, v = .slice (some ⟨g, 0, none⟩) L.length cap
theorem OwnR.row {w : World} {base g n cap : Nat} {L : List Rec} (h : OwnR w base (.slice (some ⟨g, 0, none⟩) n cap) L) : RowR w g L ∧ g < w.heap.size ∧ base ≤ g ∧ n = L.length := by
  refine ⟨fun k u hu => ?_, (World.ownsRow.lt h.1 g rfl).2, (World.ownsRow.lt h.1 g rfl).1, ?_⟩
  · have := World.ownsRow.cells h.1 (g := g) rfl k u hu
    rwa [show (⟨g, 0, none⟩ : Addr).add k = ⟨g, k, none⟩ from by unfold Addr.add; split <;> simp_all] at this
  · obtain ⟨g', cap', e⟩ := h.2
    simp at e
    exact e.2.1
theorem OwnR.open {w : World} {base : Nat} {v : Value} {L : List Rec} (h : OwnR w base v L) : ∃ g cap, v = .slice (some ⟨g, 0, none⟩) L.length cap ∧ RowR w g L ∧ g < w.heap.size ∧ base ≤ g ∧ w.ownsRow base 44 2 (.slice (some ⟨g, 0, none⟩) L.length cap) L.length (valsR L) := by
  obtain ⟨ho, g, cap, rfl⟩ := h
  have hr := OwnR.row (w := w) ⟨ho, g, cap, rfl⟩
  exact ⟨g, cap, rfl, hr.1, hr.2.1, hr.2.2.1, ho⟩
theorem OwnR.keep {w w' : World} {base : Nat} {v : Value} {L : List Rec} (h : OwnR w base v L) (hb : Below w.heap.size w w') : OwnR w' base v L := by
  obtain ⟨ho, g, cap, rfl⟩ := h
  exact ⟨World.ownsRow.kept ho (w' := w') (row := none) ⟨hb.os, hb.tape, hb.output, hb.size, fun k hk _ => hb.block k hk⟩ (.inr (by simp [Value.ownBlock])), g, cap, rfl⟩
theorem OwnR.kept {w w' : World} {base g n cap : Nat} {row : Option Nat} {L : List Rec} (h : OwnR w base (.slice (some ⟨g, 0, none⟩) n cap) L) (hb : w.grownBy w' row) (hg : some g ≠ row) : OwnR w' base (.slice (some ⟨g, 0, none⟩) n cap) L :=
  ⟨World.ownsRow.kept h.1 hb (.inr (by simpa [Value.ownBlock] using hg)), h.2⟩
theorem OwnR.weak {w : World} {base base' : Nat} {v : Value} {L : List Rec} (h : OwnR w base v L) (hb : base' ≤ base) : OwnR w base' v L := by
  refine ⟨⟨h.1.1, ?_⟩, h.2⟩
  rcases h.1.2 with h' | ⟨g', cap', cur, h', hx, rest⟩
  · exact .inl h'
  · exact .inr ⟨g', cap', cur, h', Nat.le_trans hb hx, rest⟩
theorem OwnR.lit {w : World} {base : Nat} (hb : base ≤ w.heap.size) : OwnR (w.alloc (.cells #[] 44)) base (.slice (some ⟨w.heap.size, 0, none⟩) 0 0) [] :=
  ⟨World.ownsRow_lit w #[] 0 hb (by simp) rfl, _, _, rfl⟩
theorem own_appR {w1 : World} {base : Nat} {v' : Value} {D M : List Rec} {n m : Nat} (h : w1.ownsRow base 44 2 v' (n + m) (valsR D ++ valsR M)) (hn : n = D.length) (hm : m = M.length) (hnil : ¬ v' = .slice none 0 0) : OwnR w1 base v' (D ++ M) := by
  subst hn; subst hm
  rw [← valsR_app, show D.length + M.length = (D ++ M).length from by simp] at h
  refine ⟨h, ?_⟩
  obtain ⟨_, ⟨rfl, _⟩ | ⟨g', cap', cur, rfl, _⟩⟩ := h
  · exact absurd rfl hnil
  · exact ⟨g', cap', rfl⟩
theorem RowR.news0 {w : World} {g : Nat} {L : List Rec} (h : RowR w g L) : ∀ j u, (valsR L)[j]? = some u → w.cell? ((⟨g, 0, none⟩ : Addr).add j) = some u := by
  intro j u hu
  rw [show (⟨g, 0, none⟩ : Addr).add j = ⟨g, j, none⟩ from by unfold Addr.add; split <;> simp_all]
  exact h _ u hu
theorem newR (w : World) (e : Rec) (t : TypeId) : ∀ j u, (valsR [e])[j]? = some u → (w.alloc (.cells e.cells.toArray t)).cell? ((⟨w.heap.size, 0, none⟩ : Addr).add j) = some u := by
  intro j u hu
  rw [valsR_one] at hu
  have hj : j < 2 := by
    by_cases h : j < 2
    · exact h
    · rw [List.getElem?_eq_none (by rw [cells_lenR]; omega)] at hu; cases hu
  rw [show (⟨w.heap.size, 0, none⟩ : Addr).add j = ⟨w.heap.size, 0 + j, none⟩ from by unfold Addr.add; split <;> simp_all, RecAt.new w e t j hj]
  exact hu
theorem fillR_vals {ys : List Value} {n : Nat} {E : Nat → Rec} (h : FillR ys n E) (hl : ys.length = n * 2) : ys = valsR ((List.range n).map E) := by
  apply List.ext_getElem?
  intro k
  by_cases hk : k < n * 2
  · have h1 := h (k / 2) (by omega) (k % 2) (by omega)
    have h2 := valsR_get ((List.range n).map E) (k / 2) (k % 2) (by omega)
    rw [show k / 2 * 2 + k % 2 = k from by omega] at h1 h2
    rw [h1, h2, List.getElem?_map, List.getElem?_range (by omega)]
    rfl
  · rw [List.getElem?_eq_none (by omega), List.getElem?_eq_none (by rw [valsR_len]; simp; omega)]
theorem range_takeR {es : List Rec} {n : Nat} (h : n ≤ es.length) : (List.range n).map (fun i => es.getD i zeroR) = es.take n := by
  apply List.ext_getElem?
  intro k
  by_cases hk : k < n
  · rw [List.getElem?_map, List.getElem?_range hk, List.getElem?_take, if_pos hk]
    simp [List.getD, List.getElem?_eq_getElem (show k < es.length by omega)]
  · rw [List.getElem?_eq_none (by simp; omega), List.getElem?_take, if_neg hk]
theorem IsRowR.le {w : World} {a : Option Addr} {len cap : Nat} {es : List Rec} (h : IsRowR w a len cap es) : len ≤ es.length := by
  rcases h with ⟨_, rfl, _, rfl⟩ | ⟨x, _, hl, _, hn, _⟩
  · simp
  · omega
theorem IsRowR.take_len {w : World} {a : Option Addr} {len cap : Nat} {es : List Rec} (h : IsRowR w a len cap es) : (es.take len).length = len := by
  have := h.le
  simp; omega
theorem IsRowR.below {w w' : World} {a : Option Addr} {len cap : Nat} {es : List Rec} (h : IsRowR w a len cap es) (hb : Below w.heap.size w w') : IsRowR w' a len cap es := by
  rcases h with h | ⟨x, hx, hl, hm, hn, hc⟩
  · exact .inl h
  · refine .inr ⟨x, hx, hl, hm, hn, fun i hi => ⟨fun j hj => ?_, (hc i hi).2⟩⟩
    have h1 := (hc i hi).1 j hj
    have hsome : ∃ v, w.cell? (x.add (i * 2 + j)) = some v := by
      rw [h1]
      exact ⟨_, List.getElem?_eq_getElem (by show j < 2; exact hj)⟩
    obtain ⟨v, hv⟩ := hsome
    exact (hb.cell (cell_blkR hv)).trans h1
theorem toRecS_own (a : Option Addr) (len cap : Nat) (es : List Rec) (w : World) (hR : IsRowR w a len cap es) (hlen : len ≤ 1048576) :
    Calls Tryd.prog 15 #[.slice a len cap] w fun e w' => e = .returned (.slice (some ⟨w.heap.size, 0, none⟩) len len) ∧ OwnR w' w.heap.size (.slice (some ⟨w.heap.size, 0, none⟩) len len) (es.take len) ∧ Below w.heap.size w w' := by
  refine (toRecS_any a len cap es w hR hlen).mono ?_
  rintro e w' ⟨ys, rfl, ho, hf, hb⟩
  have hle := hR.le
  have hlen' : (es.take len).length = len := by simp; omega
  refine ⟨rfl, ⟨?_, _, _, by rw [hlen']⟩, hb⟩
  rw [hlen', ← range_takeR hle, ← fillR_vals hf ho.1]
  exact ho
/-- The letters of a list of them. -/
def totR (L : List Rec) : Nat := (L.map szR).sum
theorem totR_take (es : List Rec) (n : Nat) (h : n ≤ es.length) : totRf (fun i => es.getD i zeroR) n = totR (es.take n) := by
  induction n with
  | zero => simp [totRf, totR]
  | succ n ih =>
    have ht : es.take (n + 1) = es.take n ++ [es[n]'(by omega)] := by rw [List.take_add_one, List.getElem?_eq_getElem (show n < es.length by omega)]; rfl
    rw [totRf, ih (by omega), ht]
    have hx : es.getD n zeroR = es[n]'(by omega) := by simp [List.getD, List.getElem?_eq_getElem (show n < es.length by omega)]
    simp only [totR, List.map_append, List.sum_append, List.map_cons, List.map_nil, List.sum_cons, List.sum_nil, Nat.add_zero, hx]
theorem totR_mem {L : List Rec} {e : Rec} (h : e ∈ L) : szR e ≤ totR L := by
  induction L with
  | nil => cases h
  | cons f L ih =>
    rcases List.mem_cons.1 h with rfl | h
    · simp [totR]
    · have := ih h
      simp [totR] at this ⊢
      omega
theorem sz_factsR {w : World} {a : Option Addr} {len cap : Nat} {es : List Rec} (h : IsRowR w a len cap es) {left r : Int} (hr : r = -1 ∨ 0 ≤ r ∧ (len : Int) + totRf (fun i => es.getD i zeroR) len + r = left) (h0 : 0 ≤ r) : (len : Int) + totR (es.take len) + r = left := by
  rcases hr with rfl | ⟨_, h1⟩
  · omega
  · rw [totR_take _ _ h.le] at h1; exact h1
end Go.Proofs.YtlbanaakjabfnabDoor
