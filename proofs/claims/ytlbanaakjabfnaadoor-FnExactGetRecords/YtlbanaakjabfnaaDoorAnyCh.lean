/- strings.ContainsAny at the two bytes newline and NUL, for every string: also one that is no UTF-8. -/
import Derived.Test.YtlbanaakjabfnaaDoorVis
import Derived.Laws.RangeAny
import Derived.Laws.Runes
import Derived.Lib.OthersKept
import Derived.Lib.IndexAny
import Derived.Deep.RegionWith
import Derived.WalkMore
namespace Go.Proofs.YtlbanaakjabfnaaDoor
open Go.ChangeShapes Go.WideShapes Go.ChangeAt Go.RowKit

theorem get_data (s : ByteArray) (j : Nat) (h : j < s.size) : s.data.toList[j]? = some (s.get! j) := by
  have : s.get! j = s[j] := by simpa using get_at s j h
  rw [this]
  exact List.getElem?_eq_getElem (by simpa using h)
theorem dec_hi (s : ByteArray) (i : Nat) (h : i < s.size) (ha : 128 ≤ (s[i]'h).toNat) : (128 ≤ (Utf8.decode s i).1 ∧ (Utf8.decode s i).1 ≤ 1114111) ∧ 1 ≤ (Utf8.decode s i).2 ∧ i + (Utf8.decode s i).2 ≤ s.size ∧ ∀ j c, i ≤ j → j < i + (Utf8.decode s i).2 → s.data.toList[j]? = some c → 128 ≤ c.toNat := by
  have hd := decode_high s i h ha
  have hb : ∀ k, (s.get! (i + k)).toNat < 256 := fun k => (s.get! (i + k)).toNat_lt
  have h0 := hb 0; have h1 := hb 1; have h2 := hb 2; have h3 := hb 3
  have e0 : s.get! (i + 0) = s[i] := get_at s i h
  have g0 : 128 ≤ (s.get! (i + 0)).toNat := by rw [e0]; exact ha
  have key : ∀ n : Nat, (∀ k, k < n → 128 ≤ (s.get! (i + k)).toNat) → i + n ≤ s.size → ∀ j c, i ≤ j → j < i + n → s.data.toList[j]? = some c → 128 ≤ c.toNat := by
    intro n hn hs j c hij hj hc
    rw [get_data s j (by omega)] at hc
    obtain rfl : s.get! j = c := by simpa using hc
    have := hn (j - i) (by omega)
    rwa [show i + (j - i) = j from by omega] at this
  have one1 : ∀ k, k < 1 → 128 ≤ (s.get! (i + k)).toNat := by
    intro k hk
    obtain rfl : k = 0 := by omega
    exact g0
  have one : ∀ j c, i ≤ j → j < i + 1 → s.data.toList[j]? = some c → 128 ≤ c.toNat := key 1 one1 (by omega)
  refine ⟨⟨hd.1, ?_⟩, hd.2, ?_⟩
  · simp only [Utf8.decode]
    repeat' split
    all_goals simp_all [Utf8.runeError, Utf8.valid]
    all_goals omega
  · simp only [Utf8.decode]
    split
    · omega
    · split
      · rename_i hc
        simp only [Bool.and_eq_true, beq_iff_eq, decide_eq_true_eq] at hc
        split
        · exact ⟨by simp only []; omega, key 2 (fun k hk => by
            rcases (by omega : k = 0 ∨ k = 1) with rfl | rfl
            · exact g0
            · omega) (by omega)⟩
        · exact ⟨by simp only []; omega, one⟩
      · split
        · rename_i hc
          simp only [Bool.and_eq_true, beq_iff_eq, decide_eq_true_eq] at hc
          split
          · exact ⟨by simp only []; omega, key 3 (fun k hk => by
              rcases (by omega : k = 0 ∨ k = 1 ∨ k = 2) with rfl | rfl | rfl
              · exact g0
              · omega
              · omega) (by omega)⟩
          · exact ⟨by simp only []; omega, one⟩
        · split
          · rename_i hc
            simp only [Bool.and_eq_true, beq_iff_eq, decide_eq_true_eq] at hc
            split
            · exact ⟨by simp only []; omega, key 4 (fun k hk => by
                rcases (by omega : k = 0 ∨ k = 1 ∨ k = 2 ∨ k = 3) with rfl | rfl | rfl | rfl
                · exact g0
                · omega
                · omega
                · omega) (by omega)⟩
            · exact ⟨by simp only []; omega, one⟩
          · exact ⟨by simp only []; omega, one⟩
def nlNul : ByteArray := ⟨#[10, 0]⟩
theorem encode_hi (r : Int) (h0 : 128 ≤ r) (h1 : r ≤ 1114111) (hv : Utf8.valid r = true) : (∃ a b : UInt8, Utf8.encode r = ⟨#[a, b]⟩ ∧ 128 ≤ b.toNat) ∨ (∃ a b c : UInt8, Utf8.encode r = ⟨#[a, b, c]⟩) ∨ (∃ a b c d : UInt8, Utf8.encode r = ⟨#[a, b, c, d]⟩) := by
  obtain ⟨u, rfl⟩ := Int.eq_ofNat_of_zero_le (show 0 ≤ r by omega)
  simp only [Utf8.encode, hv, if_true, Int.toNat_natCast]
  rw [if_neg (by omega)]
  split
  · exact .inl ⟨_, _, rfl, by rw [UInt8.toNat_ofNat']; omega⟩
  · split
    · exact .inr (.inl ⟨_, _, _, rfl⟩)
    · exact .inr (.inr ⟨_, _, _, _, rfl⟩)
set_option maxRecDepth 100000 in
set_option maxHeartbeats 1600000 in
theorem indexRune_hi (r : Int) (w : World) (h0 : 128 ≤ r) (h1 : r ≤ 1114111) :
    Calls Tryd.prog 46 #[.string ⟨#[10, 0]⟩, .int .i32 r] w fun e w' => e = .returned (.int .i64 (-1)) ∧ Below w.heap.size w w' := by
  have HV := Lib.hid (Tryd.utf8_ValidRune r)
  by_cases hr : r = 65533
  · subst hr
    have n0 := fun ty => run_next_ascii (P := Tryd.prog) w ⟨#[10, 0]⟩ 0 ty (by decide) (by decide)
    have n1 := fun ty => run_next_ascii (P := Tryd.prog) w ⟨#[10, 0]⟩ 1 ty (by decide) (by decide)
    have n2 := fun ty => run_next_end (P := Tryd.prog) w ⟨#[10, 0]⟩ 2 ty (by decide)
    go_enter Tryd.func46, Tryd.ntmps46
    go_wp2_with fail
    refine wp_loop_rounds 3 ?_
    rw [rounds_succ]
    go_wp2_with fail
    rw [rounds_succ]
    go_wp2_with fail
    rw [rounds_succ]
    go_wp2_with fail
    go_ret
    exact ⟨rfl, (Below.refl _ _).alloc (Nat.le_refl _) _⟩
  · have hq : (r == 65533) = false := by simpa using hr
    cases hv : Lib.validRune r with
    | false =>
      rw [hv] at HV
      go_enter Tryd.func46, Tryd.ntmps46
      go_wp2_with fail
      refine (HV.out _).mono ?_
      rintro e _ ⟨rfl, rfl⟩
      go_wp2_with fail
      go_ret
      exact ⟨rfl, Below.refl _ _⟩
    | true =>
      rw [hv] at HV
      have hv2 : Utf8.valid r = true := by
        simp only [Lib.validRune, decide_eq_true_eq] at hv
        simp [Utf8.valid]
        omega
      have hcv := fun w => run_convert_int_string (P := Tryd.prog) w 21 9 .i32 r (by rw [Tryd.underlying21]; rfl) Tryd.underlying9
      rcases encode_hi r h0 h1 hv2 with ⟨a, b, hE, hb⟩ | ⟨a, b, c, hE⟩ | ⟨a, b, c, d, hE⟩
      · have HIB := Lib.hid (Tryd.strings_IndexByte ⟨#[]⟩)
        have hne : ((((⟨#[10, 0]⟩ : ByteArray)[1]'(by decide)).toNat : Int) != (((⟨#[a, b]⟩ : ByteArray)[1]'(by show 1 < 2; decide)).toNat : Int)) = true := by
          show ((0 : Int) != ((b.toNat : Nat) : Int)) = true
          simp; omega
        have h8 := b.toNat_lt
        rw [hE] at hcv
        go_enter Tryd.func46, Tryd.ntmps46
        go_wp2_with fail
        refine (HV.out _).mono ?_
        rintro e _ ⟨rfl, rfl⟩
        go_wp2_with fail
        go_step3
        go_wp2_with fail
        refine wp_loop_rounds 1 ?_
        rw [rounds_succ]
        go_wp2_with fail
        go_step3
        go_wp2_with fail
        go_region
        all_goals (go_wp2_with fail)
        all_goals (go_region_with (go_at_call 55; refine (HIB.out _ _).mono ?_; rintro e _ ⟨rfl, rfl⟩))
        all_goals (go_wp2_with fail)
        all_goals (rw [Exit.noGoto_ret]; simp only [Exit.inBlock, Exit.then]; rw [Exit.noGoto_ret])

        all_goals (go_ret; exact ⟨rfl, (Below.refl _ _).drew.drew⟩)
      · have hv3 := hv
        rw [hE] at hcv
        go_enter Tryd.func46, Tryd.ntmps46
        go_wp2_with fail
        refine (HV.out _).mono ?_
        rintro e _ ⟨rfl, rfl⟩
        go_wp2_with fail
        go_step3
        go_wp2_with fail
        refine wp_loop_rounds 1 ?_
        rw [rounds_succ]
        go_wp2_with fail
        rw [Exit.noGoto_ret]
        go_ret
        exact ⟨rfl, Below.refl _ _⟩
      · have hv3 := hv
        rw [hE] at hcv
        go_enter Tryd.func46, Tryd.ntmps46
        go_wp2_with fail
        refine (HV.out _).mono ?_
        rintro e _ ⟨rfl, rfl⟩
        go_wp2_with fail
        go_step3
        go_wp2_with fail
        refine wp_loop_rounds 1 ?_
        rw [rounds_succ]
        go_wp2_with fail
        rw [Exit.noGoto_ret]
        go_ret
        exact ⟨rfl, Below.refl _ _⟩
/-- A byte of a record's value: neither NUL nor newline. -/
def valb (c : UInt8) : Bool := c != 0 && c != 10
theorem valb_hi {c : UInt8} (h : 128 ≤ c.toNat) : valb c = true := by
  have h0 : c ≠ 0 := by rintro rfl; simp at h
  have h1 : c ≠ 10 := by rintro rfl; simp at h
  simp [valb, h0, h1]
theorem noAny_iff (s : ByteArray) : Lib.containsAny s.data.toList [10, 0] = !(s.data.toList.all valb) := by
  unfold Lib.containsAny
  cases h : s.data.toList.all valb with
  | true =>
    rw [Lib.indexAny_none (fun j y hj hy => by
      have := List.all_eq_true.1 h y (List.mem_of_getElem? hy)
      simp only [valb, Bool.and_eq_true, bne_iff_ne, ne_eq] at this
      simp [this.1, this.2])]
    rfl
  | false =>
    have hge := Lib.indexAny_ge [10, 0] s.data.toList
    by_cases h1 : Lib.indexAny s.data.toList [10, 0] = -1
    · exfalso
      obtain ⟨x, hx, hv⟩ := List.all_eq_false.1 h
      obtain ⟨k, hk⟩ := List.mem_iff_getElem?.1 hx
      have : ∀ (l : List UInt8) (k : Nat), l[k]? = some x → Lib.indexAny l [10, 0] ≠ -1 := by
        intro l
        induction l with
        | nil => intro k hk; simp at hk
        | cons b l ih =>
          intro k hk
          unfold Lib.indexAny
          have hxc : ([10, 0] : List UInt8).contains x = true := by
            simp only [valb, Bool.and_eq_true, bne_iff_ne, ne_eq, not_and, Classical.not_not] at hv
            by_cases hx0 : x = 0
            · simp [hx0]
            · simp [hv hx0]
          cases k with
          | zero =>
            simp at hk
            subst hk
            rw [if_pos hxc]; omega
          | succ k =>
            have := ih k (by simpa using hk)
            have hg := Lib.indexAny_ge [10, 0] l
            split
            · omega
            · rw [if_neg (by simpa using this)]; omega
      exact this _ k hk h1
    · simp; omega
set_option maxRecDepth 100000 in
set_option maxHeartbeats 1600000 in
theorem indexAny_short (s : ByteArray) (w : World) (h8 : s.size ≤ 8) :
    Calls Tryd.prog 43 #[.string s, .string ⟨#[10, 0]⟩] w fun e w' => (∃ n : Int, e = .returned (.int .i64 n) ∧ (decide (0 ≤ n)) = !(s.data.toList.all valb)) ∧ Below w.heap.size w w' := by
  have HU := Lib.hid (Tryd.strings_shouldUseASCIISet (s.size : Int))
  have h8z : decide ((8 : Int) < (s.size : Int)) = false := decide_eq_false (by omega)
  rw [h8z] at HU
  have HA := Lib.hid (fun r w => Tryd.strings_IndexRune_ascii ⟨#[10, 0]⟩ r w)
  have HH := Lib.hid (fun r w => indexRune_hi r w)
  have HB : Hid (∀ k, (h : k < s.size) → valb s[k] = false → s.data.toList.all valb = false) := Lib.hid (fun k h hc => allB_bad h hc)
  have HD : Hid (AllB valb s s.size → s.data.toList.all valb = true) := Lib.hid (fun h => h.done)
  generalize s.data.toList.all valb = r at HB HD
  go_enter Tryd.func43, Tryd.ntmps43
  go_wp2_with fail
  refine (HU.out _).mono ?_
  rintro e w1 ⟨rfl, hw1⟩
  obtain rfl : w = w1 := hw1.symm
  go_wp2_with fail
  go_loopg [9, 10] s.size (fun g _ _ wr => ∃ i : Nat, i + g = s.size ∧ wr.heap[w.heap.size]? = some (.stringIter s i) ∧ AllB valb s i ∧ Below w.heap.size w wr)
  case atStart => exact ⟨0, by omega, World.iter_heap _ _ _, AllB.start _ _, (Below.refl _ _).alloc (Nat.le_refl _) _⟩
  case round =>
    obtain ⟨i, hig, hit, ha, hb⟩ := hrel
    have A := Lib.hid ha
    have B := Lib.hid hb
    clear ha hb
    by_cases hlt : i < s.size
    · have hi8 := (s[i]).toNat_lt
      by_cases hc : (s[i]).toNat < 128
      · have hnx := fun ty => Lib.run_next_ascii_at (P := Tryd.prog) wr w.heap.size s i ty hit hlt hc
        have IT := Lib.hid (Lib.iterAt_heap wr w.heap.size s i (i + 1) hit)
        have B2 : Hid (Below w.heap.size w (wr.iterAt w.heap.size s (i + 1))) := Lib.hid ⟨B.out.os, B.out.tape, B.out.output, by simpa [World.iterAt] using B.out.size, fun k hk => by rw [← B.out.block k hk]; simp [World.iterAt, Array.getElem?_setIfInBounds]; intro h; omega⟩
        cases hv : valb s[i] with
        | true =>
          have A2 := Lib.hid (A.out.step hlt hv)
          have hneg : ¬ (0 : Int) ≤ Lib.indexByte [10, 0] (s[i]) := by
            simp only [valb, Bool.and_eq_true, bne_iff_ne, ne_eq] at hv
            have h1 : ¬ (10 : UInt8) = s[i] := fun e => hv.2 e.symm
            have h2 : ¬ (0 : UInt8) = s[i] := fun e => hv.1 e.symm
            simp [Lib.indexByte, h1, h2]
          clear hv hit A
          generalize wr.iterAt w.heap.size s (i + 1) = w1 at *
          go_wp2_with fail
          refine (HA.out _ _ (by omega) (by omega)).mono ?_
          rintro e _ ⟨rfl, rfl⟩
          have hback : (((s[i].toNat : Nat) : Int)).toNat.toUInt8 = s[i] := by simp
          rw [hback]
          go_wp2_with fail
          go_roundg (s.size - (i + 1))
          case rel => exact ⟨i + 1, by omega, IT.out, A2.out, B2.out⟩
          case measure => omega
        | false =>
          have HF : Hid (r = false) := Lib.hid (HB.out i hlt hv)
          have hpos : (0 : Int) ≤ Lib.indexByte [10, 0] (s[i]) := by
            have hg := Lib.indexByte_ge [10, 0] s[i]
            by_cases h1 : Lib.indexByte [10, 0] s[i] = -1
            · exfalso
              have n0 := Lib.indexByte_none h1 0
              have n1 := Lib.indexByte_none h1 1
              simp at n0 n1
              simp [valb] at hv
              by_cases h0 : s[i] = 0
              · exact n1 h0.symm
              · exact n0 (hv h0).symm
            · omega
          clear hv hit A
          generalize wr.iterAt w.heap.size s (i + 1) = w1 at *
          go_wp2_with fail
          refine (HA.out _ _ (by omega) (by omega)).mono ?_
          rintro e _ ⟨rfl, rfl⟩
          have hback : (((s[i].toNat : Nat) : Int)).toNat.toUInt8 = s[i] := by simp
          rw [hback]
          go_wp2_with fail
          go_ret
          exact ⟨⟨_, rfl, by rw [HF.out]; simp⟩, B2.out⟩
      · have hnx := fun ty => Lib.run_next_any_at (P := Tryd.prog) wr w.heap.size s i ty hit hlt
        obtain ⟨⟨d0, d1⟩, d2, d3, d4⟩ := dec_hi s i hlt (by omega)
        have IT := Lib.hid (Lib.iterAt_heap wr w.heap.size s i (i + (Utf8.decode s i).2) hit)
        have B2 : Hid (Below w.heap.size w (wr.iterAt w.heap.size s (i + (Utf8.decode s i).2))) := Lib.hid ⟨B.out.os, B.out.tape, B.out.output, by simpa [World.iterAt] using B.out.size, fun k hk => by rw [← B.out.block k hk]; simp [World.iterAt, Array.getElem?_setIfInBounds]; intro h; omega⟩
        have hsz : w.heap.size < (wr.iterAt w.heap.size s (i + (Utf8.decode s i).2)).heap.size := (Array.getElem?_eq_some_iff.1 IT.out).1
        have A2 : Hid (AllB valb s (i + (Utf8.decode s i).2)) := Lib.hid (by
          have hA := A.out
          unfold AllB at hA ⊢
          rw [List.all_eq_true] at hA ⊢
          intro x hx
          obtain ⟨j, hj⟩ := List.mem_iff_getElem?.1 hx
          rw [List.getElem?_take] at hj
          split at hj
          · rename_i hjl
            by_cases hji : j < i
            · exact hA x (List.mem_iff_getElem?.2 ⟨j, by rw [List.getElem?_take, if_pos hji]; exact hj⟩)
            · exact valb_hi (d4 j x (by omega) hjl hj)
          · cases hj)
        clear d4 hit A
        generalize wr.iterAt w.heap.size s (i + (Utf8.decode s i).2) = w1 at *
        generalize (Utf8.decode s i).2 = dn at *
        generalize (Utf8.decode s i).1 = dc at *
        go_wp2_with fail
        refine (HH.out _ _ (by omega) (by omega)).mono ?_
        rintro e w2 ⟨rfl, hb⟩
        have IT2 := Lib.hid ((hb.block w.heap.size hsz).trans IT.out)
        have B3 := Lib.hid (B2.out.trans (hb.mono B2.out.size))
        clear hb
        go_wp2_with fail
        go_roundg (s.size - (i + dn))
        case rel => exact ⟨i + dn, by omega, IT2.out, A2.out, B3.out⟩
        case measure => omega
    · obtain rfl : i = s.size := by omega
      have hnx := fun ty => Lib.run_next_end_at (P := Tryd.prog) wr w.heap.size s s.size ty hit (by omega)
      have HF : Hid (r = true) := Lib.hid (HD.out A.out)
      go_wp2_with fail
      go_ret
      exact ⟨⟨_, rfl, by rw [HF.out]; rfl⟩, B.out⟩
theorem containsAny_nl (s : ByteArray) (w : World) (hs : s.size ≤ 4294967280) :
    Calls Tryd.prog 36 #[.string s, .string ⟨#[10, 0]⟩] w fun e w' => e = .returned (.bool (!(s.data.toList.all valb))) ∧ Below w.heap.size w w' := by
  have HC : Hid (∀ w, Calls Tryd.prog 43 #[.string s, .string ⟨#[10, 0]⟩] w fun e w' => (∃ n : Int, e = .returned (.int .i64 n) ∧ (decide (0 ≤ n)) = !(s.data.toList.all valb)) ∧ Below w.heap.size w w') := Lib.hid (by
    intro w
    by_cases h8 : s.size ≤ 8
    · exact indexAny_short s w h8
    · refine (Tryd.strings_IndexAny_long (fun w => by kernel_rfl) s ⟨#[10, 0]⟩ w (by decide) (by omega) (by omega) (by decide) (by
        intro j b hb
        have : j < 2 := (List.getElem?_eq_some_iff.1 hb).1
        rcases (by omega : j = 0 ∨ j = 1) with rfl | rfl
        · simp at hb; subst hb; decide
        · simp at hb; subst hb; decide)).mono ?_
      rintro e w' ⟨rfl, rfl⟩
      exact ⟨⟨_, rfl, noAny_iff s⟩, (((Below.refl _ w).alloc (Nat.le_refl _) _).alloc (by simp) _)⟩)
  generalize s.data.toList.all valb = r at HC
  go_enter Tryd.func36, Tryd.ntmps36
  go_wp2_with fail
  refine (HC.out _).mono ?_
  rintro e w1 ⟨⟨n, rfl, hn⟩, hb⟩
  go_wp2_with fail
  go_ret
  exact ⟨ret_bool (by rw [← hn]), hb⟩
end Go.Proofs.YtlbanaakjabfnaaDoor
