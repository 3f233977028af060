/- Contract of laws.szEntryS. -/
import Derived.Test.YtancidbbkoeokaaGreatEntS
namespace Go.Proofs.YtancidbbkoeokaaGreat
open Go.ChangeShapes Go.WideShapes Go.ChangeAt Go.RowKit Go.Deep

/-- The letters of an entry's texts. -/
def esz (e : Ent) : Nat := e.path.size + e.link.size + e.user.size + e.group.size + e.body.size
def totE (E : Nat → Ent) : Nat → Nat
  | 0 => 0
  | n + 1 => totE E n + esz (E n)
theorem szv_esz (k : Int) (p l : ByteArray) (m u g t : Int) (us gr b : ByteArray) (left : Int) : szv p l us gr b left = if left < (esz ⟨k, p, l, m, u, g, t, us, gr, b⟩ : Int) then -1 else left - (esz ⟨k, p, l, m, u, g, t, us, gr, b⟩ : Int) := by
  have : (esz ⟨k, p, l, m, u, g, t, us, gr, b⟩ : Int) = (p.size : Int) + l.size + us.size + gr.size + b.size := by simp [esz]
  rw [this]; rfl
/-- What is left of a bound behind a slice of entries: less than none, or each entry and each letter counted. -/
def SzS (E : Nat → Ent) (len : Nat) (left : Int) (w : World) (e : Ending) (w' : World) : Prop :=
  (∃ r : Int, e = .returned (.int .i64 r) ∧ (r = -1 ∨ 0 ≤ r ∧ (len : Int) + totE E len + r = left)) ∧ Below w.heap.size w w'
set_option maxHeartbeats 1600000 in
theorem szEntryS_some (x : Addr) (len cap : Nat) (es : List Ent) (left : Int) (w : World) (hR : IsRowE w (some x) len cap es) (h0 : 0 ≤ left) (h1 : left ≤ 1048576) :
    Calls Tryz.prog 5 #[.slice (some x) len cap, .int .i64 left] w (SzS (fun i => es.getD i entD) len left w) := by
  have hmx : (len : Int) ≤ 9223372036854775807 := by
    rcases hR with ⟨h, _⟩ | ⟨y, _, hl, hm, _⟩
    · cases h
    · simp only [maxLen] at hm; omega
  have HE : Hid (∀ i, i < len → (∀ j, j < 10 → w.cell? (x.add (i * 10 + j)) = ((fun i => es.getD i entD) i).cells[j]? ∧ (x.add (i * 10 + j)).block < w.heap.size) ∧ ((fun i => es.getD i entD) i).wf) := Lib.hid (by
    rcases hR with ⟨h, _⟩ | ⟨y, hy, hl, _, hn, hc⟩
    · cases h
    · obtain rfl : x = y := by simpa using hy
      intro i hi
      have hi' : i < es.length := by omega
      show (∀ j, j < 10 → w.cell? (x.add (i * 10 + j)) = (es.getD i entD).cells[j]? ∧ _) ∧ (es.getD i entD).wf
      rw [show es.getD i entD = es[i] by simp [List.getD, List.getElem?_eq_getElem hi']]
      refine ⟨fun j hj => ⟨(hc i hi').1 j hj, ?_⟩, (hc i hi').2⟩
      have h1 := (hc i hi').1 j hj
      have hsome : ∃ v, w.cell? (x.add (i * 10 + j)) = some v := by
        rw [h1]
        exact ⟨_, List.getElem?_eq_getElem (by show j < 10; exact hj)⟩
      obtain ⟨v, hv⟩ := hsome
      exact cell_blk hv)
  clear hR
  generalize (fun i => es.getD i entD) = E at *
  by_cases hneg : left - (len : Int) < 0
  · go_enter Tryz.func5, Tryz.ntmps5
    go_wp2_with fail
    go_ret
    exact ⟨⟨-1, rfl, .inl rfl⟩, Below.refl _ _⟩
  · go_enter Tryz.func5, Tryz.ntmps5
    go_wp2_with fail
    go_loopw [1, 5] (fun v u wr => ∃ (i : Nat) (l : Int), v = .int .i64 l ∧ u = .int .i64 i ∧ i ≤ len ∧ 0 ≤ l ∧ (len : Int) + totE E i + l = left ∧ Below w.heap.size w wr) (fun _ u _ => len - (intOf u).toNat)
    case atStart => exact ⟨0, left - len, rfl, rfl, Nat.zero_le _, by omega, by simp only [totE]; omega, Below.refl _ _⟩
    case round =>
      obtain ⟨i, l, rfl, rfl, hi, hl, ht, hb⟩ := hrel
      have HB := Lib.hid hb
      have HT := Lib.hid ht
      have hll : l ≤ 1048576 := by omega
      clear hb ht
      by_cases hlt : i < len
      · have hlt2 : (i : Int) < (len : Int) := by omega
        obtain ⟨he, hw⟩ := HE.out i hlt
        have c0 := ten_at (fun j hj => (HB.out.cell (he j hj).2).trans (he j hj).1)
        have HN : Hid (totE E (i + 1) = totE E i + esz (E i)) := Lib.hid rfl
        generalize E i = e at he hw c0 HN
        obtain ⟨c0, c1, c2, c3, c4, c5, c6, c7, c8, c9⟩ := c0
        clear he
        obtain ⟨k, p, lk, m, u, g, t, us, gr, b⟩ := e
        have HZ := Lib.hid (szv_esz k p lk m u g t us gr b l)
        have HC := Lib.hid (fun w => szEntry_any k p lk m u g t us gr b l w hw.2.1 hw.2.2.1 hw.2.2.2.1 hw.2.2.2.2.1 hw.2.2.2.2.2 hl hll)
        generalize szv p lk us gr b l = r at HZ HC
        clear hw
        go_wp2_with fail
        refine (HC.out _).mono ?_
        rintro e w2 ⟨rfl, hb2⟩
        have HB2 := Lib.hid (HB.out.trans (hb2.mono HB.out.size))
        clear hb2 HB HC
        by_cases hr : r < 0
        · go_wp2_with fail
          go_ret
          exact ⟨⟨-1, rfl, .inl rfl⟩, HB2.out⟩
        · have HF : Hid (r = l - (esz ⟨k, p, lk, m, u, g, t, us, gr, b⟩ : Int)) := Lib.hid (by
            have h := HZ.out
            split at h
            · omega
            · exact h)
          go_wp2_with fail
          go_roundw
          case rel => exact ⟨i + 1, r, rfl, by go_num, by omega, by omega, by have h2 := HF.out; have h3 := HN.out; have h4 := HT.out; rw [h3]; omega, HB2.out⟩
          case measure => simp [intOf]; omega
      · obtain rfl : i = len := by omega
        have hlt2 : ¬ (i : Int) < (i : Int) := by omega
        go_wp2_with fail
        go_ret
        exact ⟨⟨l, rfl, .inr ⟨hl, HT.out⟩⟩, HB.out⟩
theorem szEntryS_nil (left : Int) (w : World) (h0 : 0 ≤ left) (h1 : left ≤ 1048576) :
    Calls Tryz.prog 5 #[.slice none 0 0, .int .i64 left] w fun e w' => e = .returned (.int .i64 left) ∧ Below w.heap.size w w' := by
  go_enter Tryz.func5, Tryz.ntmps5
  go_wp2_with fail
  go_loopw [1, 5] (fun v u wr => v = .int .i64 left ∧ u = .int .i64 0 ∧ wr = w) (fun _ _ _ => 0)
  case atStart => exact ⟨rfl, rfl, rfl⟩
  case round =>
    obtain ⟨rfl, rfl, rfl⟩ := hrel
    go_wp2_with fail
    go_ret
    exact ⟨rfl, Below.refl _ _⟩
/-- Every slice of entries. -/
theorem szEntryS_any (a : Option Addr) (len cap : Nat) (es : List Ent) (left : Int) (w : World) (hR : IsRowE w a len cap es) (h0 : 0 ≤ left) (h1 : left ≤ 1048576) :
    Calls Tryz.prog 5 #[.slice a len cap, .int .i64 left] w (SzS (fun i => es.getD i entD) len left w) := by
  cases a with
  | some x => exact szEntryS_some x len cap es left w hR h0 h1
  | none =>
    rcases hR with ⟨_, rfl, rfl, rfl⟩ | ⟨y, hy, _⟩
    · refine (szEntryS_nil left w h0 h1).mono ?_
      rintro e w' ⟨rfl, hb⟩
      exact ⟨⟨left, rfl, .inr ⟨h0, by simp [totE]⟩⟩, hb⟩
    · cases hy
end Go.Proofs.YtancidbbkoeokaaGreat
