/- Contract of impl.afterToken: the places that a token reaches from those of a set, in whatever order the map gives them. -/
import Derived.Test.YthembgllkfgknaaSpread
namespace Go.Proofs.Ythembgllkfgknaa
open Go.RowKit Go.Maps

/-- What has been added when the places of 'left' are still to come. -/
def Done (s x : ByteArray) (n : Nat) (R : Nat → Bool) (left : Lit → Bool) (k : Nat) : Prop := ∃ a, (a ≤ n ∧ R a = true ∧ left (.int .i64 (a : Int)) = false) ∧ Yields s x n a k
def From (n : Nat) (R : Nat → Bool) (k : Nat) : Prop := k ≤ n ∧ R k = true
theorem yields_le {s x : ByteArray} {n a k : Nat} (h : Yields s x n a k) : k ≤ n := by
  unfold Yields at h
  split at h
  · exact h.2.1
  · omega
theorem same_int (a b : Nat) : (Lit.int .i64 (a : Int)).sameKey (.int .i64 (b : Int)) = decide (a = b) := by
  by_cases h : a = b
  · subst h; rw [WideAt.sameKey_self (show WideAt.IsKeyLit (.int .i64 (a : Int)) from trivial)]; simp
  · rw [sameKey_ne (int_ne h)]; simp [h]
theorem done_step {s x : ByteArray} {n : Nat} {R : Nat → Bool} {left : Lit → Bool} {a : Nat} (ha : From n R a) (k : Nat) :
    (Done s x n R left k ∨ Yields s x n a k) ↔ Done s x n R (fun z => left z && !z.sameKey (.int .i64 (a : Int))) k := by
  constructor
  · rintro (⟨a', ⟨h1, h2, h3⟩, h4⟩ | h)
    · exact ⟨a', ⟨h1, h2, by simp [h3]⟩, h4⟩
    · exact ⟨a, ⟨ha.1, ha.2, by simp [same_int]⟩, h⟩
  · rintro ⟨a', ⟨h1, h2, h3⟩, h4⟩
    by_cases e : a' = a
    · subst e; exact .inr h4
    · exact .inl ⟨a', ⟨h1, h2, by simpa [same_int, e] using h3⟩, h4⟩
theorem done_end {s x : ByteArray} {n : Nat} {R : Nat → Bool} {left : Lit → Bool} (h : ∀ kl, left kl = false) (k : Nat) : Done s x n R left k ↔ From n (tokStep s x R) k := by
  constructor
  · rintro ⟨a, ⟨h1, h2, _⟩, h4⟩
    exact ⟨yields_le h4, (tok_iff s x R n k (yields_le h4)).2 ⟨a, h1, h2, h4⟩⟩
  · rintro ⟨h1, h2⟩
    obtain ⟨a, h3, h4, h5⟩ := (tok_iff s x R n k h1).1 h2
    exact ⟨a, ⟨h3, h4, h _⟩, h5⟩
theorem done_start {s x : ByteArray} {n : Nat} {R : Nat → Bool} {D : DataW Unit} (hD : SetIs D n (From n R)) (k : Nat) : False ↔ Done s x n R (Maps.has D) k := by
  constructor
  · exact False.elim
  · rintro ⟨a, ⟨h1, h2, h3⟩, _⟩
    rw [hD.has_t ⟨h1, h2⟩] at h3; cases h3
theorem yields_star {s x : ByteArray} {n a k : Nat} (h : isStar x = true) : Yields s x n a k ↔ Reach s (isWide x) n a k := by
  unfold Yields Reach; rw [if_pos h]
theorem done_closed {s x : ByteArray} {n : Nat} {R : Nat → Bool} {left : Lit → Bool} (h : isStar x = true) : Closed s (isWide x) n (Done s x n R left) := by
  rintro k ⟨a, h1, h2⟩ hk hst
  rw [yields_star h] at h2
  refine ⟨a, h1, (yields_star h).2 ⟨by have := h2.1; omega, by omega, fun j h3 h4 => ?_⟩⟩
  by_cases e : j = k
  · subst e; exact hst
  · exact h2.2.2 j h3 (by omega)
theorem yields_one {s x : ByteArray} {n a k : Nat} (h : isStar x = false) (ha : a < n) (ho : oneOk s x a = true) : Yields s x n a k ↔ k = a + 1 := by
  unfold Yields; rw [if_neg (by rw [h]; simp)]
  exact ⟨fun h => h.1, fun h => ⟨h, ha, ho⟩⟩
theorem yields_none {s x : ByteArray} {n a k : Nat} (h : isStar x = false) (ho : ¬ a < n ∨ oneOk s x a = false) : ¬ Yields s x n a k := by
  unfold Yields; rw [if_neg (by rw [h]; simp)]
  rintro ⟨_, h1, h2⟩
  rcases ho with ho | ho
  · exact ho h1
  · rw [h2] at ho; cases ho

theorem slice_one (s : ByteArray) (a : Nat) (h : a < s.size) (w : World) : (Instr.slice 9 (.string s) (some (.int .i64 (a : Int))) (some (.int .i64 ((a : Int) + 1))) none).run Try.prog w = .ok (.string (s.extract a (a + 1))) w := by
  have := run_slice_string (P := Try.prog) (w := w) 9 s .i64 .i64 (a : Int) ((a : Int) + 1) Try.underlying9 (by omega) (by omega) (by omega)
  rw [show ((a : Int) + 1).toNat = a + 1 from by omega, Int.toNat_natCast] at this
  exact this
theorem invK3 : ∀ key kl, keyOf Try.prog 3 key = some kl → ∃ x : Int, key = .int .i64 x := fun key kl h => by
  obtain ⟨x, rfl, _⟩ := Maps.keyOf_int_inv Try.underlying3 h
  exact ⟨x, rfl⟩
theorem invU : ∀ v (y : DataW Unit × List MemPlace), unitElem v = some y → ∃ _c : Unit, v = .agg #[] := fun _ _ h => ⟨(), (unitElem_inv h).1⟩
theorem keyI1 {k : Nat} (h : k ≤ 1000) : keyOf Try.prog 3 (.int .i64 ((k : Int) + 1)) = some (.int .i64 ((k + 1 : Nat) : Int)) := by
  have := keyI (k := k + 1) (by omega)
  rw [show ((k + 1 : Nat) : Int) = (k : Int) + 1 from by omega] at this ⊢
  exact this

set_option maxRecDepth 100000 in
set_option maxHeartbeats 1000000 in
theorem afterToken_any (x s : ByteArray) (b : Nat) (R : Nat → Bool) (w : World) (hx : 0 < x.size) (hn : s.size ≤ 300) (hset : SetAt w b s.size (From s.size R)) :
    Calls Try.prog 33 #[.string x, .string s, .map (some b)] w fun e w' => e = .returned (.map (some w.heap.size)) ∧ SetAt w' w.heap.size s.size (From s.size (tokStep s x R)) ∧ Below w.heap.size w w' := by
  have hmm := @run_makeMap Try.prog
  have hbl := hset.lt
  obtain ⟨D, hown, hD⟩ := hset
  have HD := Lib.hid hD
  have HO := Lib.hid hown
  have e1 : (w.alloc (.map #[] 0)).heap.size = w.heap.size + 1 := by simp
  clear hD hown
  go_enter Try.func33, Try.ntmps33
  go_wp2_with (at_range; refine wpList_range_own _ rfl _ 50 rfl 3 48 lawI Try.underlying50 _ b (s.size + 1) _ rfl (World.ownsMap.alloc HO.out _) ?_; intro w0 hrg0 hg0 hs0)
  go_frame
  rw [e1] at hrg0 hs0 ⊢
  go_loopw [8] (fun _ wr => ∃ (left : Lit → Bool) (cnt : Nat), wr.ranges Try.prog 3 (unitElem (H := Unit)) b (w.heap.size + 1) (s.size + 1) D left cnt ∧ SetAt wr w.heap.size s.size (Done s x s.size R left) ∧ Below w.heap.size w wr) (fun _ wr => wr.rangeLeft b (w.heap.size + 1))
  case atStart =>
    exact ⟨_, _, hrg0, ((set_made w s.size).kept hg0 (by simp)).congr (done_start HD.out), ((Below.refl _ _).alloc (Nat.le_refl _) _).grown hg0 (by simp) (fun j hj => by cases hj)⟩
  case round =>
    obtain ⟨left, cnt, hrg, hout, hnx⟩ := hrel
    have HG := Lib.hid hrg
    have HT := Lib.hid hout
    have HN := Lib.hid hnx
    clear hrg hout hnx hrg0 hg0 hs0
    go_wp2_with (at_next; refine wpList_next_ranges _ rfl _ rfl 3 lawI (unitElem (H := Unit)) (Value.int .i64) (fun (_ : Unit) => .agg #[]) invK3 invU b (w.heap.size + 1) (s.size + 1) _ _ _ rfl HG.out ?_ ?_)
    · intro _ hl0
      have HE := Lib.hid (HT.out.congr (done_end hl0))
      clear hl0
      go_wp2
      go_ret
      exact ⟨rfl, HE.out, HN.out⟩
    · intro z c kl y w1 cnt1 hkey hlx hv hat hrg1 hlt hg1 hs1 hen
      obtain ⟨z', ez, rfl, hwz⟩ := Maps.keyOf_int_inv Try.underlying3 hkey
      cases ez
      obtain ⟨a, rfl, ha⟩ := (HD.out.1 z).1 (has_true_of_atKey hat)
      have hal := ha.1
      have HA := Lib.hid ha
      have HG1 := Lib.hid hrg1
      have HT1 := Lib.hid (HT.out.kept hg1 (by simp))
      have HN1 := Lib.hid (HN.out.grown hg1 HN.out.size (fun j hj => by cases hj; exact Nat.le_succ _))
      have hLT : Hid (cnt1 < cnt) := Lib.hid hlt
      clear hkey hlx hv hat hrg1 hlt hg1 hs1 ha hwz
      have hal2 : (a : Int) ≤ (s.size : Int) := by omega
      have hc0 := UInt8.toNat_lt x[0]
      by_cases hst : (x[0].toNat : Int) = 42
      · have q1 : ((x[0].toNat : Int) == 42) = true := by simp [hst]
        have hS : isStar x = true := by
          have : x[0].toNat = 42 := by omega
          simp [isStar, bangG x 0 hx, ← UInt8.toNat_inj, this]
        have HSP := Lib.hid (fun w1 h => spread_any x s w.heap.size a (Done s x s.size R left) w1 hn hal h (done_closed hS))
        have HC : Hid (∀ k, After s (isWide x) s.size (Done s x s.size R left) a k ↔ Done s x s.size R (fun z => left z && !z.sameKey (.int .i64 (a : Int))) k) := Lib.hid (fun k => by
          rw [← done_step HA.out k, yields_star hS]; rfl)
        clear hst hS
        go_wp2_with fail
        refine (HSP.out _ HT1.out).mono ?_
        rintro e w2 ⟨rfl, hs2, hg2⟩
        have hrg2 := HG1.out.kept hg2 (fun e => by have := Option.some.inj e; omega) (fun e => by have := Option.some.inj e; omega)
        have HG2 := Lib.hid hrg2
        have HT2 := Lib.hid (hs2.congr HC.out)
        have HN2 := Lib.hid (HN1.out.grown hg2 HN1.out.size (fun j hj => by cases hj; exact Nat.le_refl _))
        clear hs2 hg2 hrg2
        go_wp2_with fail
        go_roundw
        case rel => exact ⟨_, cnt1, HG2.out, HT2.out, HN2.out⟩
        case measure => rw [HG2.out.left_eq, HG.out.left_eq]; exact hLT.out
      · have q1 : ((x[0].toNat : Int) == 42) = false := by simpa using hst
        have hS : isStar x = false := by
          have : ¬ x[0].toNat = 42 := by omega
          simp [isStar, bangG x 0 hx, ← UInt8.toNat_inj, this]
        clear hst
        have HNO : Hid ((¬ a < s.size ∨ oneOk s x a = false) → SetAt w1 w.heap.size s.size (Done s x s.size R (fun z => left z && !z.sameKey (.int .i64 (a : Int))))) := Lib.hid (fun h => HT1.out.congr (fun k => by
          rw [← done_step HA.out k]
          exact ⟨.inl, fun h2 => h2.elim id (fun h3 => absurd h3 (yields_none hS h))⟩))
        by_cases hlt : a < s.size
        · have hlt2 : (a : Int) < (s.size : Int) := by omega
          have hYES : Hid (oneOk s x a = true → ∀ w2 : World, ∀ D2 : DataW Unit, SetIs D2 s.size (Done s x s.size R left) → IsMap D2 → w2.ownsMap Try.prog 3 (unitElem (H := Unit)) w.heap.size (s.size + 1 + 1) (D2.put (.int .i64 ((a + 1 : Nat) : Int)) (.agg [])) → SetAt w2 w.heap.size s.size (Done s x s.size R (fun z => left z && !z.sameKey (.int .i64 (a : Int))))) := Lib.hid (fun ho w2 D2 h1 h2 h3 => by
            have h4 : SetIs (D2.put (.int .i64 ((a + 1 : Nat) : Int)) (.agg [])) s.size (Done s x s.size R (fun z => left z && !z.sameKey (.int .i64 (a : Int)))) := (h1.put h2 (by omega) _).congr (fun k => by
              rw [← done_step HA.out k, yields_one hS hlt ho])
            exact ⟨_, set_size h3 h4, h4⟩)
          obtain ⟨D2, ho2, hD2⟩ := HT1.out
          have HO2 := Lib.hid ho2
          have HD2 := Lib.hid hD2
          have hkey := keyI1 (k := a) (by omega)
          have hmx : s.size + 1 < maxLen := by simp only [maxLen]; omega
          have hsl := fun w => slice_one s a hlt w
          clear ho2 hD2
          by_cases hxe : x = s.extract a (a + 1)
          · have q2 := ba_eq hxe
            have HY := Lib.hid (hYES.out (by simp [oneOk, ← hxe]))
            clear hxe
            go_wp2_with (at_mapUpdate; refine wpList_mapUpdate_own _ rfl _ _ _ 50 rfl 3 48 lawI Try.underlying50 (unitElem (H := Unit)) w.heap.size (s.size + 1) _ rfl HO2.out hmx _ _ _ rfl rfl hkey _ [] unitElem_mk ?_; intro w2 hown2 hg2; have HT2 := Lib.hid (HY.out w2 D2 HD2.out (World.ownsMap.isMap HO2.out) hown2); have HG2 := Lib.hid (HG1.out.kept hg2 (fun e => by have := Option.some.inj e; omega) (fun e => by have := Option.some.inj e; omega)); have HN2 := Lib.hid (HN1.out.grown hg2 HN1.out.size (fun j hj => by cases hj; exact Nat.le_refl _)); clear hown2 hg2; go_frame)
            go_roundw
            case rel => exact ⟨_, cnt1, HG2.out, HT2.out, HN2.out⟩
            case measure => rw [HG2.out.left_eq, HG.out.left_eq]; exact hLT.out
          · have q2 := ba_ne hxe
            by_cases hq : x = ⟨#[63]⟩
            · have q3 := lit_eq (l := [63]) hq
              by_cases hsl : (s[a].toNat : Int) = 47
              · have q4 : ((s[a].toNat : Int) != 47) = false := by simp [hsl]
                have HE := Lib.hid (HNO.out (.inr (by have : s[a].toNat = 47 := by omega
                                                      simp [oneOk, hxe, bangG s a hlt, this])))
                clear hxe hq hsl
                go_wp2_with fail
                go_roundw
                case rel => exact ⟨_, cnt1, HG1.out, HE.out, HN1.out⟩
                case measure => rw [HG1.out.left_eq, HG.out.left_eq]; exact hLT.out
              · have q4 : ((s[a].toNat : Int) != 47) = true := by simpa using hsl
                have HY := Lib.hid (hYES.out (by have : ¬ s[a].toNat = 47 := by omega
                                                 simp [oneOk, hq, bangG s a hlt, this]))
                clear hxe hq hsl
                go_wp2_with (at_mapUpdate; refine wpList_mapUpdate_own _ rfl _ _ _ 50 rfl 3 48 lawI Try.underlying50 (unitElem (H := Unit)) w.heap.size (s.size + 1) _ rfl HO2.out hmx _ _ _ rfl rfl hkey _ [] unitElem_mk ?_; intro w2 hown2 hg2; have HT2 := Lib.hid (HY.out w2 D2 HD2.out (World.ownsMap.isMap HO2.out) hown2); have HG2 := Lib.hid (HG1.out.kept hg2 (fun e => by have := Option.some.inj e; omega) (fun e => by have := Option.some.inj e; omega)); have HN2 := Lib.hid (HN1.out.grown hg2 HN1.out.size (fun j hj => by cases hj; exact Nat.le_refl _)); clear hown2 hg2; go_frame)
                go_roundw
                case rel => exact ⟨_, cnt1, HG2.out, HT2.out, HN2.out⟩
                case measure => rw [HG2.out.left_eq, HG.out.left_eq]; exact hLT.out
            · have q3 := lit_ne (l := [63]) hq
              have HE := Lib.hid (HNO.out (.inr (by simp [oneOk, hxe, hq])))
              clear hxe hq
              go_wp2_with fail
              go_roundw
              case rel => exact ⟨_, cnt1, HG1.out, HE.out, HN1.out⟩
              case measure => rw [HG1.out.left_eq, HG.out.left_eq]; exact hLT.out
        · have hlt2 : ¬ (a : Int) < (s.size : Int) := by omega
          have HE := Lib.hid (HNO.out (.inl hlt))
          go_wp2_with fail
          go_roundw
          case rel => exact ⟨_, cnt1, HG1.out, HE.out, HN1.out⟩
          case measure => rw [HG1.out.left_eq, HG.out.left_eq]; exact hLT.out
end Go.Proofs.Ythembgllkfgknaa
