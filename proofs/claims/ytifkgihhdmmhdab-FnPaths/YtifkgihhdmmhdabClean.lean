/- Contracts of spec.Clean and impl.Clean. -/
import Derived.Test.YtifkgihhdmmhdabCMath
import Derived.Test.YtifkgihhdmmhdabJoin
import Derived.Test.YtifkgihhdmmhdabPartsI
namespace Go.Proofs.Ytifkgihhdmmhdab
open Go.RowKit Go.Shelf

theorem ret_sb {a : ByteArray} {b : Bool} {r : ByteArray × Bool} (h : r = (a, b)) : Ending.returned (.tuple #[.string a, .bool b]) = .returned (.tuple #[.string r.1, .bool r.2]) := by
  subst h; rfl
theorem own_pop {w : World} {base g cap : Nat} {k : List ByteArray} {y : ByteArray} (h : OwnT w base (.slice (some ⟨g, 0, none⟩) (k ++ [y]).length cap) (k ++ [y]).length (strVals (k ++ [y]))) : OwnT w base (.slice (some ⟨g, 0, none⟩) k.length cap) k.length (strVals k) := by
  rw [show (k ++ [y]).length = k.length + 1 from by simp, ← strVals_snoc] at h
  exact ownsRow_pop (by simp [strVals]) h

theorem clean_spec (s : ByteArray) (w : World) (hs : s.size ≤ 4194304) :
    Calls Try.prog 39 #[.string s] w fun e w' => e = .returned (.tuple #[.string (cleanv s).1, .bool (cleanv s).2]) ∧ Below w.heap.size w w' := by
  obtain ⟨i0, hi, hz0, hz1, hz2⟩ := info_parts Try.info9
  have HS := Lib.hid hs
  have H := Lib.hid (fun w => parts_spec s w hs)
  have hl := partsv_le s
  have HA := Lib.hid (fun kept (h : KeptAt (partsv s) kept) => h.all)
  have HT := Lib.hid (fun kept (h : KeptAt (partsv s) kept) => h.tot)
  have HZ := Lib.hid (fun kept (h : KeptAt (partsv s) kept) => joinv_size h)
  have HK := Lib.hid (fun pre kept (h : KeptAt pre kept) (hp : pre <+: partsv s) => kept_len h hp)
  have HF := Lib.hid (fun pre x (h : KeptAt pre []) (hx : x = dot2) (hp : pre ++ [x] <+: partsv s) => h.failed hx hp)
  generalize cleanv s = r at HA HF
  generalize partsv s = L at H HA HT HZ HK HF hl
  generalize hn : L.length = n at hl
  have hn2 : (n : Int) ≤ 4194305 := by omega
  have HN := Lib.hid hn
  clear hn hl hs
  go_enter Try.func39, Try.ntmps39
  go_wp2_with fail
  refine (H.out _).mono ?_
  rintro e w1 ⟨v, rfl, ⟨ho1, g1, cap1, rfl⟩, hb1⟩
  have R1 := Lib.hid (OwnT.rowF ho1)
  have l1 := (World.ownsRow.lt ho1 g1 rfl).2
  have B1 := Lib.hid hb1
  rw [HN.out] at R1 ⊢
  clear ho1 hb1
  go_wp2_with fail
  go_loopw [5, 6] (fun v i wr => ∃ (k : Nat) (kept : List ByteArray), k ≤ n ∧ i = .int .i64 k ∧ KeptAt (L.take k) kept ∧ OwnL wr w1.heap.size v kept ∧ Below w1.heap.size w1 wr) (fun _ i _ => n - (intOf i).toNat)
  case atStart => exact ⟨0, [], Nat.zero_le _, rfl, KeptAt.start, ⟨World.ownsRow_lit w1 #[] 0 (Nat.le_refl _) (by simp) rfl, _, _, rfl⟩, (Below.refl _ _).alloc (Nat.le_refl _) _⟩
  case round =>
    obtain ⟨k, kept, hk, rfl, hka, ⟨hown, g, cap, rfl⟩, hb⟩ := hrel
    have HO := Lib.hid hown
    have HB := Lib.hid hb
    have HKA := Lib.hid hka
    have hsz := HB.out.size
    clear hown hb hka
    by_cases hlt : k < n
    · have hlt2 : (k : Int) < (n : Int) := by omega
      have hc : wr.cell? ⟨g1, k, none⟩ = some (.string (rowOf L k)) := (R1.out.below HB.out l1) k hlt
      have HX : Hid (L.take (k + 1) = L.take k ++ [rowOf L k]) := Lib.hid (take_rowOf (by rw [HN.out]; exact hlt))
      have HP : Hid (L.take k ++ [rowOf L k] <+: L) := Lib.hid (by rw [← HX.out]; exact List.take_prefix _ _)
      have HL := Lib.hid (HK.out _ _ HKA.out (List.take_prefix _ _))
      generalize rowOf L k = x at hc HX HP
      by_cases x0 : x.size = 0
      · have q0 := empty_t x0
        have HN2 : Hid (KeptAt (L.take (k + 1)) kept) := Lib.hid (by rw [HX.out]; exact HKA.out.skip (.inl x0))
        clear x0 HX HP HKA
        go_wp2
        go_roundw
        case rel => exact ⟨k + 1, kept, by omega, by go_num, HN2.out, ⟨HO.out, _, _, rfl⟩, HB.out⟩
        case measure => simp [intOf]; omega
      · have q0 := empty_f x0
        by_cases x1 : x = dot1
        · have q1 := lit_eq (l := [46]) x1
          have HN2 : Hid (KeptAt (L.take (k + 1)) kept) := Lib.hid (by rw [HX.out]; exact HKA.out.skip (.inr x1))
          clear x0 x1 HX HP HKA
          go_wp2
          go_roundw
          case rel => exact ⟨k + 1, kept, by omega, by go_num, HN2.out, ⟨HO.out, _, _, rfl⟩, HB.out⟩
          case measure => simp [intOf]; omega
        · have q1 := lit_ne (l := [46]) x1
          by_cases x2 : x = dot2
          · have q2 := lit_eq (l := [46, 46]) x2
            rcases List.eq_nil_or_concat kept with rfl | ⟨k', y, rfl⟩
            · have HE := Lib.hid (HF.out _ _ HKA.out x2 HP.out)
              clear x0 x1 x2 HX HP HKA
              go_wp2
              go_ret2
              exact ⟨ret_sb HE.out, B1.out.trans (HB.out.mono B1.out.size)⟩
            · rw [List.concat_eq_append] at HO HKA HL ⊢
              have HN2 : Hid (KeptAt (L.take (k + 1)) k') := Lib.hid (by rw [HX.out]; have := HKA.out.pop x2 (by simp); simpa using this)
              have HO2 : Hid (OwnL wr w1.heap.size (.slice (some ⟨g, 0, none⟩) k'.length cap) k') := Lib.hid ⟨own_pop HO.out, _, _, rfl⟩
              have hcap : k'.length + 1 ≤ cap := by
                rcases HO.out.2 with ⟨h', _⟩ | ⟨g', cap', cur, h', _, _, hc, _⟩
                · simp at h'
                · simp at h'; simp at hc; omega
              rw [show (k' ++ [y]).length = k'.length + 1 from by simp] at HL ⊢
              have hkl : k'.length ≤ 4194305 := by have := HL.out; have := HS.out; omega
              clear x0 x1 x2 HX HP HKA HO HL
              generalize k'.length = m at *
              go_wp2
              go_roundw
              case rel => exact ⟨k + 1, k', by omega, by go_num, HN2.out, HO2.out, HB.out⟩
              case measure => simp [intOf]; omega
          · have q2 := lit_ne (l := [46, 46]) x2
            have HN2 : Hid (KeptAt (L.take (k + 1)) (kept ++ [x])) := Lib.hid (by rw [HX.out]; exact HKA.out.push x0 x1 x2)
            have hkl : Hid (kept.length ≤ 4194305) := Lib.hid (by have := HL.out; have := HS.out; omega)
            clear x0 x1 x2 HX HP HKA HL
            go_wp2_with (at_builtin; refine wpList_append_own _ rfl _ _ 26 rfl w1.heap.size 9 i0 (.string ⟨#[]⟩) 1 16 Try.underlying26 hi hz0 hz1 hz2 rfl (by decide) _ _ _ rfl (World.ownsRow.alloc HO.out _) ⟨wr.heap.size, 0, none⟩ 1 1 [.string x] rfl rfl ?c1 ?c2 ?c3 ?c4 ?c5 ?_)
            case c1 => exact cell_one_new _ _ _
            case c2 => intro u hu; simp at hu; subst hu; rfl
            case c3 => have := hkl.out; simp only [maxLen]; omega
            case c4 => have := hkl.out; omega
            case c5 => simp; omega
            · intro v' w2 hown' hgrow hnil
              have hO : OwnL w2 w1.heap.size v' (kept ++ [x]) := own_snoc hown' hnil
              have hBl : Below w1.heap.size w1 w2 := (HB.out.alloc hsz _).grown hgrow (by simp; omega) (fun b hb => (World.ownsRow.lt HO.out b hb).1)
              clear hown' hgrow hnil
              have HO2 := Lib.hid hO
              have HB2 := Lib.hid hBl
              clear hO hBl
              go_wp2
              go_roundw
              case rel => exact ⟨k + 1, kept ++ [x], by omega, by go_num, HN2.out, HO2.out, HB2.out⟩
              case measure => simp [intOf]; omega
    · obtain rfl : k = n := by omega
      have HKB : Hid (KeptAt L kept) := Lib.hid (by have := HKA.out; rwa [← HN.out, List.take_length] at this)
      have HE := Lib.hid (HA.out kept HKB.out)
      have HZ2 := Lib.hid (HZ.out kept HKB.out)
      have HJ := Lib.hid (fun w h => join_spec kept g 0 cap w (by have := HT.out kept HKB.out; have := HS.out; omega) h)
      have HPO := Lib.hid (fun w => pathOk_spec (joinv kept) w (by have := HZ2.out; have := HS.out; omega))
      have RK := Lib.hid (OwnT.rowF HO.out).toO
      have HG := Lib.hid (And.intro (fun h => cleanF_ok (k := kept) h) (fun h => cleanF_bad (k := kept) h))
      generalize joinv kept = j at HJ HPO HG
      go_wp2_with fail
      refine (HJ.out _ RK.out).mono ?_
      rintro e w2 ⟨rfl, rfl⟩
      go_wp2_with fail
      cases hp : pathOkv j with
      | true =>
        have HE2 := Lib.hid (HE.out.trans (HG.out.1 hp))
        rw [hp] at HPO
        clear hp
        refine (HPO.out _).mono ?_
        rintro e w3 ⟨rfl, hb3⟩
        go_wp2_with fail
        go_ret2
        exact ⟨ret_sb HE2.out, (B1.out.trans (HB.out.mono B1.out.size)).trans (hb3.mono (Nat.le_trans B1.out.size HB.out.size))⟩
      | false =>
        have HE2 := Lib.hid (HE.out.trans (HG.out.2 hp))
        rw [hp] at HPO
        clear hp
        refine (HPO.out _).mono ?_
        rintro e w3 ⟨rfl, hb3⟩
        go_wp2_with fail
        go_ret2
        exact ⟨ret_sb HE2.out, (B1.out.trans (HB.out.mono B1.out.size)).trans (hb3.mono (Nat.le_trans B1.out.size HB.out.size))⟩

/-- What a box with a row of texts holds: nil, or a row of its own. -/
theorem row_cases {w : World} {base : Nat} {v : Value} {l : List ByteArray} (h : w.ownsRow base 9 1 v l.length (strVals l)) : (v = .slice none 0 0 ∧ l = []) ∨ ∃ g cap, v = .slice (some ⟨g, 0, none⟩) l.length cap ∧ l.length ≤ cap := by
  rcases h.2 with ⟨h1, h2⟩ | ⟨g, cap, cur, h1, _, _, h2, _⟩
  · exact .inl ⟨h1, List.eq_nil_of_length_eq_zero h2⟩
  · exact .inr ⟨g, cap, h1, h2⟩

theorem own_ex {β κ : Type} {P : κ → β → World → Prop} (h : ∀ k, Own (P k)) : Own (fun s W => ∃ k, P k s W) := fun s X Y row ⟨k, hk⟩ hg hr => ⟨k, h k s X Y row hk hg hr⟩
theorem own_and {β : Type} {P Q : β → World → Prop} (h : Own P) (h' : Own Q) : Own (fun s W => P s W ∧ Q s W) := fun s X Y row hk hg hr => ⟨h s X Y row hk.1 hg hr, h' s X Y row hk.2 hg hr⟩
theorem own_weak {W : World} {base base' : Nat} {v : Value} {n : Nat} {xs : List Value} (h : W.ownsRow base 9 1 v n xs) (hb : base' ≤ base) : W.ownsRow base' 9 1 v n xs := by
  refine ⟨h.1, ?_⟩
  rcases h.2 with h' | ⟨g, cap, cur, h1, h2, r⟩
  · exact .inl h'
  · exact .inr ⟨g, cap, cur, h1, Nat.le_trans hb h2, r⟩
theorem boxed_in {W W' : World} {B : Nat} {t : TypeId} {v : Value} (h : Boxed W B t v) (hb : Below W.heap.size W W') : Boxed W' B t v := (hb.block B h.lt).trans h
theorem row_lt {W : World} {base : Nat} {v : Value} {n : Nat} {xs : List Value} (h : W.ownsRow base 9 1 v n xs) (B : Nat) (hB : B < base) : some B ≠ v.ownBlock := by
  intro e
  have := (World.ownsRow.lt h B e.symm).1
  omega

attribute [local go_sem] Oper.semAt_some

set_option maxRecDepth 100000 in
set_option maxHeartbeats 4000000 in
theorem clean_impl (s : ByteArray) (w : World) (hs : s.size ≤ 4194304) :
    Calls Try.prog 38 #[.string s] w fun e w' => e = .returned (.tuple #[.string (cleanv s).1, .bool (cleanv s).2]) ∧ Below w.heap.size w w' := by
  refine (callsIn_wide (n := 4)).1 ?_
  have HS := Lib.hid hs
  have HA := Lib.hid (fun kept (h : KeptAt (partsv s) kept) => h.all)
  have HT := Lib.hid (fun kept (h : KeptAt (partsv s) kept) => h.tot)
  have HZ := Lib.hid (fun kept (h : KeptAt (partsv s) kept) => joinv_size h)
  have HF := Lib.hid (fun pre x (h : KeptAt pre []) (hx : x = dot2) (hp : pre ++ [x] <+: partsv s) => h.failed hx hp)
  have hlen := Lib.hid (partsv_le s)
  have HCS := Lib.hid (fun n Bn n₀ w h1 h2 => comps_stops n Bn n₀ s w (by omega) h1 h2)
  obtain ⟨i0, hi, hz0, hz1, hz2⟩ := info_parts Try.info9
  clear hs
  refine callsIn_of_wp_marks Try.func38 rfl trivial ?_ rfl
  simp only [Try.ntmps38, List.size_toArray, List.length_cons, List.length_nil, Nat.reduceAdd, Nat.reduceSub, Array.replicate_succ, Array.replicate_zero, List.push_toArray, List.append_toArray, List.nil_append, List.cons_append]
  gi_wp2_with fail
  refine ⟨trivial, (comps_make _ _ _).mono ?_⟩
  rintro e w2 ⟨rfl, rfl⟩
  gi_wp2_with fail
  have b1 := Boxed.new w 9 (.string ⟨#[]⟩)
  have b2 := Boxed.new (w.alloc (.cells #[.string ⟨#[]⟩] 9)) 4 (.bool false)
  have b3 := Boxed.new ((w.alloc (.cells #[.string ⟨#[]⟩] 9)).alloc (.cells #[.bool false] 4)) 26 (.slice none 0 0)
  have b4 := Boxed.new (((w.alloc (.cells #[.string ⟨#[]⟩] 9)).alloc (.cells #[.bool false] 4)).alloc (.cells #[.slice none 0 0] 26)) 9 (.string s)
  simp only [World.size_alloc] at b2 b3 b4
  have hB0 : Below w.heap.size w ((((w.alloc (.cells #[.string ⟨#[]⟩] 9)).alloc (.cells #[.bool false] 4)).alloc (.cells #[.slice none 0 0] 26)).alloc (.cells #[.string s] 9)) :=
    ((((Below.refl _ w).alloc (Nat.le_refl _) _).alloc (by simp) _).alloc (by simp; omega) _).alloc (by simp; omega) _
  refine wpIn_rangeFunc_ownG rfl (by omega) (gf := 67) (lb := #[.pointer (some ⟨w.heap.size + 1 + 1 + 1, 0, none⟩)]) rfl trivial (enters_of Try.func67 (by kernel_rfl) rfl)
    (HCS.out _ (w.heap.size + 1 + 1 + 1) w.heap.size _ (by simp) b4.cell) belowK_t (belowK_b (by simp; omega)) (Below.refl _ _) (fun _ => rfl)
    (fun pre W => ((∃ kept, ∃ v, Boxed W (w.heap.size + 1 + 1) 26 v ∧ W.ownsRow (w.heap.size + 1 + 1 + 1) 9 1 v kept.length (strVals kept) ∧ KeptAt pre kept) ∧ Boxed W w.heap.size 9 (.string ⟨#[]⟩) ∧ Boxed W (w.heap.size + 1) 4 (.bool false)) ∧ Below w.heap.size w W)
    (fun c pre W => ((c = .ret ∧ ∃ pre' x, pre = pre' ++ [x] ∧ KeptAt pre' [] ∧ x = dot2) ∧ Boxed W w.heap.size 9 (.string ⟨#[]⟩) ∧ Boxed W (w.heap.size + 1) 4 (.bool false)) ∧ Below w.heap.size w W)
    (OwnFrom.and (Own.from (own_and (own_ex fun kept => holdsRow_own _ _ _ _ _ (fun _ => kept.length) (fun _ => strVals kept) (fun pre _ => KeptAt pre kept)) (own_and (boxed_own _ _ (fun _ => .string ⟨#[]⟩)) (boxed_own _ _ (fun _ => .bool false)))) _) (ownFrom_below (Nat.le_refl _) (by simp; omega)))
    (fun c => OwnFrom.and (OwnFrom.and (ownFrom_pure _ _) (Own.from (own_and (boxed_own _ _ (fun _ => .string ⟨#[]⟩)) (boxed_own _ _ (fun _ => .bool false))) _)) (ownFrom_below (Nat.le_refl _) (by simp; omega)))
    ⟨⟨⟨[], _, b3.alloc _, World.ownsRow_nil _ _ _ _, KeptAt.start⟩, ((b1.alloc _).alloc _).alloc _, (b2.alloc _).alloc _⟩, hB0⟩
    (fun x => { tmps := #[.string s, undef, .pointer (some ⟨w.heap.size, 0, none⟩), .pointer (some ⟨w.heap.size + 1, 0, none⟩), .pointer (some ⟨w.heap.size + 1 + 1, 0, none⟩), .string x, undef, .string s, .func (.func 67) #[] #[.pointer (some ⟨w.heap.size + 1 + 1 + 1, 0, none⟩)], .string x, undef, undef, undef, undef, undef, undef, undef, undef, undef, undef, undef, undef, undef, undef, undef, undef, undef, undef, undef, undef, undef, undef, undef, undef], defers := [] }) ?assign ?body ?done ?stop
  case assign =>
    intro l x W K hK
    gi_wp2
    exact hK
  case body =>
    rintro l pre x W ⟨⟨⟨kept, v, hv, hrow, hka⟩, hb1, hb2⟩, hB⟩ hlt
    have hc := hv.cell
    have hf := hv.frozen
    have HV := Lib.hid hv
    have HR := Lib.hid hrow
    have HKA := Lib.hid hka
    have HB1 := Lib.hid hb1
    have HB2 := Lib.hid hb2
    have HB := Lib.hid hB
    have hsz3 : Hid (w.heap.size + 1 + 1 < W.heap.size) := Lib.hid hv.lt
    have hkl : Hid (kept.length ≤ 4194306) := Lib.hid (by have h2 := hka.2.2; have := hlen.out; have := HS.out; omega)
    clear hv hrow hka hb1 hb2 hB b1 b2 b3 b4 hB0
    by_cases x0 : x.size = 0
    · have q0 := empty_t x0
      have HN2 := Lib.hid (HKA.out.skip (.inl x0))
      clear x0
      gi_wp2
      exact ⟨KeepsFrom.refl _ _, Below.refl _ _, ⟨⟨kept, v, HV.out, HR.out, HN2.out⟩, HB1.out, HB2.out⟩, HB.out⟩
    · have q0 := empty_f x0
      by_cases x1 : x = dot1
      · have q1 := lit_eq (l := [46]) x1
        have HN2 := Lib.hid (HKA.out.skip (.inr x1))
        clear x0 x1
        gi_wp2
        exact ⟨KeepsFrom.refl _ _, Below.refl _ _, ⟨⟨kept, v, HV.out, HR.out, HN2.out⟩, HB1.out, HB2.out⟩, HB.out⟩
      · have q1 := lit_ne (l := [46]) x1
        by_cases x2 : x = dot2
        · have q2 := lit_eq (l := [46, 46]) x2
          rcases row_cases HR.out with ⟨rfl, rfl⟩ | ⟨g, cap, rfl, hcap⟩
          · have HN2 : Hid (∃ pre' y, pre ++ [x] = pre' ++ [y] ∧ KeptAt pre' [] ∧ y = dot2) := Lib.hid ⟨pre, x, rfl, HKA.out, x2⟩
            have c1 := HB1.out.cell
            have f1 := HB1.out.frozen
            have c2 := HB2.out.cell
            have f2 := HB2.out.frozen
            clear x0 x1 x2
            gi_wp2
            exact ⟨((KeepsOthers.setCell _ _ _).trans (KeepsOthers.setCell _ _ _)).from _, ⟨⟨rfl, HN2.out⟩, (HB1.out.set _).other (by omega) _, (HB2.out.other (by omega) _).set _⟩, (HB.out.setCell (p := ⟨w.heap.size, 0, none⟩) (Nat.le_refl _) _).setCell (p := ⟨w.heap.size + 1, 0, none⟩) (by simp) _⟩
          · rcases List.eq_nil_or_concat kept with rfl | ⟨k', y, rfl⟩
            · have HN2 : Hid (∃ pre' y, pre ++ [x] = pre' ++ [y] ∧ KeptAt pre' [] ∧ y = dot2) := Lib.hid ⟨pre, x, rfl, HKA.out, x2⟩
              have c1 := HB1.out.cell
              have f1 := HB1.out.frozen
              have c2 := HB2.out.cell
              have f2 := HB2.out.frozen
              clear x0 x1 x2
              rw [List.length_nil] at hc
              gi_wp2
              exact ⟨((KeepsOthers.setCell _ _ _).trans (KeepsOthers.setCell _ _ _)).from _, ⟨⟨rfl, HN2.out⟩, (HB1.out.set _).other (by omega) _, (HB2.out.other (by omega) _).set _⟩, (HB.out.setCell (p := ⟨w.heap.size, 0, none⟩) (Nat.le_refl _) _).setCell (p := ⟨w.heap.size + 1, 0, none⟩) (by simp) _⟩
            · rw [List.concat_eq_append] at HR HKA hkl hcap hc HV
              have HN2 : Hid (KeptAt (pre ++ [x]) k') := Lib.hid (by have := HKA.out.pop x2 (by simp); simpa using this)
              have HO2 : Hid (W.ownsRow (w.heap.size + 1 + 1 + 1) 9 1 (.slice (some ⟨g, 0, none⟩) k'.length cap) k'.length (strVals k')) := Lib.hid (own_pop HR.out)
              rw [show (k' ++ [y]).length = k'.length + 1 from by simp] at hkl hcap hc HV
              have hkl2 : (k'.length : Int) ≤ 4194306 := by have := hkl.out; omega
              clear x0 x1 x2 HR HKA
              gi_wp2
              have hne := HV.out.not_row (by decide) HO2.out
              exact ⟨(KeepsOthers.setCell _ _ _).from _, (Below.refl _ _).setCell (p := ⟨w.heap.size + 1 + 1, 0, none⟩) (by simp; omega) _, ⟨⟨k', _, HV.out.set _, World.ownsRow.kept HO2.out (grownBy_setCell' W _ _) (.inr hne.symm), HN2.out⟩, HB1.out.other (by omega) _, HB2.out.other (by omega) _⟩, HB.out.setCell (p := ⟨w.heap.size + 1 + 1, 0, none⟩) (by simp; omega) _⟩
        · have q2 := lit_ne (l := [46, 46]) x2
          have HN2 := Lib.hid (HKA.out.push x0 x1 x2)
          clear x0 x1 x2
          gi_wp2_with (gi_at_builtin; refine wpListIn_append_own _ rfl _ _ 26 rfl (w.heap.size + 1 + 1 + 1) 9 i0 (.string ⟨#[]⟩) 1 16 Try.underlying26 hi hz0 hz1 hz2 rfl (by decide) _ _ _ rfl (World.ownsRow.alloc HR.out _) ⟨W.heap.size, 0, none⟩ 1 1 [.string x] rfl rfl (cell_one_new _ _ _) (by simp [Value.oneCell']) (by have := hkl.out; simp [maxLen]; omega) (by have := hkl.out; omega) (by have := hsz3.out; simp; omega) ?_; intro v' w1 hown' hgrow _; obtain ⟨g', cap', rfl⟩ := ownsRow_succ hown'; obtain ⟨hv1, hv2, _, hk2, hb2⟩ := HV.out.appended (n₀ := w.heap.size) (by decide) (own_weak HR.out (by omega)) HB.out.size (by omega) (own_weak hown' (by omega)) hgrow; have hc1 := hv1.cell; have hf1 := hv1.frozen)
          have hr2 : (w1.setCell ⟨w.heap.size + 1 + 1, 0, none⟩ (.slice (some ⟨g', 0, none⟩) (kept.length + 1) cap')).ownsRow (w.heap.size + 1 + 1 + 1) 9 1 (.slice (some ⟨g', 0, none⟩) (kept.length + 1) cap') (kept.length + 1) (strVals kept ++ [.string x]) := hown'.kept (grownBy_setCell' w1 _ _) (.inr (hv1.not_row (by decide) hown').symm)
          have k1 : Boxed (w1.setCell ⟨w.heap.size + 1 + 1, 0, none⟩ (.slice (some ⟨g', 0, none⟩) (kept.length + 1) cap')) w.heap.size 9 (.string ⟨#[]⟩) := ((HB1.out.alloc _).kept hgrow (row_lt HR.out _ (by omega))).other (by omega) _
          have k2 : Boxed (w1.setCell ⟨w.heap.size + 1 + 1, 0, none⟩ (.slice (some ⟨g', 0, none⟩) (kept.length + 1) cap')) (w.heap.size + 1) 4 (.bool false) := ((HB2.out.alloc _).kept hgrow (row_lt HR.out _ (by omega))).other (by omega) _
          exact ⟨hk2.from _, hb2, ⟨⟨kept ++ [x], _, hv2, by rw [← strVals_snoc, List.length_append]; exact hr2, HN2.out⟩, k1, k2⟩, HB.out.trans hb2⟩
  case done =>
    rintro D ys W hD rfl ⟨⟨⟨kept, v, hv, hrow, hka⟩, hb1, hb2⟩, hB⟩ hK
    have hc := hv.cell
    have HE := Lib.hid (HA.out kept hka)
    have HZ2 := Lib.hid (HZ.out kept hka)
    have HPO := Lib.hid (fun w => (callsIn_wide (n := 3)).2 (pathOk_impl (joinv kept) w (by have := HZ2.out; have := HS.out; omega)))
    have HG := Lib.hid (And.intro (fun h => cleanF_ok (k := kept) h) (fun h => cleanF_bad (k := kept) h))
    have HB1 := Lib.hid hb1
    have HB2 := Lib.hid hb2
    have HB := Lib.hid hB
    have HK := Lib.hid hK
    have hDlt : D < W.heap.size := (Array.getElem?_eq_some_iff.1 hK).1
    have HJ : Hid (CallsIn Fence.wide 3 Try.prog 26 #[v] W fun e w' => e = .returned (.string (joinv kept)) ∧ Below W.heap.size W w') := Lib.hid (by
      refine (callsIn_wide (n := 3)).2 ?_
      rcases row_cases hrow with ⟨rfl, rfl⟩ | ⟨g, cap, rfl, _⟩
      · exact join_impl_nil W
      · exact join_impl kept g 0 cap W (World.ownsRow.lt hrow g rfl).2 (by have := HT.out kept hka; have := HS.out; omega) (OwnT.rowF hrow).toO)
    clear hv hrow hka hb1 hb2 hB b1 b2 b3 b4 hB0 hK
    generalize joinv kept = j at HJ HPO HG
    gi_wp2_with fail
    refine ⟨trivial, HJ.out.mono ?_⟩
    rintro e W1 ⟨rfl, hj⟩
    have HJ1 := Lib.hid hj
    have z1 := hj.size
    clear hj
    gi_wp2_with fail
    cases hp : pathOkv j with
    | true =>
      have HE2 := Lib.hid (HE.out.trans (HG.out.1 hp))
      rw [hp] at HPO
      clear hp
      refine ⟨trivial, (HPO.out _).mono ?_⟩
      rintro e W2 ⟨rfl, hj2⟩
      have HJ2 : Hid (Below W.heap.size W W2) := Lib.hid (HJ1.out.trans (hj2.mono z1))
      clear hj2 HJ1
      have B1 := boxed_in HB1.out HJ2.out
      have B2 := boxed_in HB2.out HJ2.out
      have c1 := B1.cell
      have f1 := B1.frozen
      have c2 := B2.cell
      have f2 := B2.frozen
      have HB1' := Lib.hid B1
      have HB2' := Lib.hid B2
      have hK2 := Lib.hid ((HJ2.out.block D hDlt).trans HK.out)
      clear B1 B2 HK
      gi_wp2
      have hK' := ((KeepsOthers.setCell W2 ⟨w.heap.size, 0, none⟩ (.string j)).trans (KeepsOthers.setCell _ ⟨w.heap.size + 1, 0, none⟩ (.bool true))).same D _ hK2.out rfl
      refine ⟨by simp, .inl ⟨_, _, rfl, run_takeDeferred hK', ?_⟩⟩
      have d1 := cell_kept ((HB1'.out.set (.string j)).other (B' := w.heap.size + 1) (by omega) (.bool true)).cell (grownBy_putObj' _ D (.deferred none)) (fun r e => by cases e; exact ⟨_, hK', rfl⟩)
      have d2 := cell_kept ((HB2'.out.other (B' := w.heap.size) (by omega) (.string j)).set (.bool true)).cell (grownBy_putObj' _ D (.deferred none)) (fun r e => by cases e; exact ⟨_, hK', rfl⟩)
      have hBw := (HB.out.trans (HJ2.out.mono HB.out.size))
      refine ⟨.tuple #[.string j, .bool true], ?_, ret_sb HE2.out, ((hBw.setCell (p := ⟨w.heap.size, 0, none⟩) (Nat.le_refl _) _).setCell (p := ⟨w.heap.size + 1, 0, none⟩) (by simp) _).trans (belowK_b (w := w) (Nat.le_refl _) _ D _ _ (by simp at hD; omega) hK' rfl rfl)⟩
      simp [results, Try.f38, go_sem, d1, d2]
    | false =>
      have HE2 := Lib.hid (HE.out.trans (HG.out.2 hp))
      rw [hp] at HPO
      clear hp
      refine ⟨trivial, (HPO.out _).mono ?_⟩
      rintro e W2 ⟨rfl, hj2⟩
      have HJ2 : Hid (Below W.heap.size W W2) := Lib.hid (HJ1.out.trans (hj2.mono z1))
      clear hj2 HJ1
      have B1 := boxed_in HB1.out HJ2.out
      have B2 := boxed_in HB2.out HJ2.out
      have c1 := B1.cell
      have f1 := B1.frozen
      have c2 := B2.cell
      have f2 := B2.frozen
      have HB1' := Lib.hid B1
      have HB2' := Lib.hid B2
      have hK2 := Lib.hid ((HJ2.out.block D hDlt).trans HK.out)
      clear B1 B2 HK
      gi_wp2
      have hK' := ((KeepsOthers.setCell W2 ⟨w.heap.size, 0, none⟩ (.string ⟨#[]⟩)).trans (KeepsOthers.setCell _ ⟨w.heap.size + 1, 0, none⟩ (.bool false))).same D _ hK2.out rfl
      refine ⟨by simp, .inl ⟨_, _, rfl, run_takeDeferred hK', ?_⟩⟩
      have d1 := cell_kept ((HB1'.out.set (.string ⟨#[]⟩)).other (B' := w.heap.size + 1) (by omega) (.bool false)).cell (grownBy_putObj' _ D (.deferred none)) (fun r e => by cases e; exact ⟨_, hK', rfl⟩)
      have d2 := cell_kept ((HB2'.out.other (B' := w.heap.size) (by omega) (.string ⟨#[]⟩)).set (.bool false)).cell (grownBy_putObj' _ D (.deferred none)) (fun r e => by cases e; exact ⟨_, hK', rfl⟩)
      have hBw := (HB.out.trans (HJ2.out.mono HB.out.size))
      refine ⟨.tuple #[.string ⟨#[]⟩, .bool false], ?_, ret_sb HE2.out, ((hBw.setCell (p := ⟨w.heap.size, 0, none⟩) (Nat.le_refl _) _).setCell (p := ⟨w.heap.size + 1, 0, none⟩) (by simp) _).trans (belowK_b (w := w) (Nat.le_refl _) _ D _ _ (by simp at hD; omega) hK' rfl rfl)⟩
      simp [results, Try.f38, go_sem, d1, d2]
  case stop =>
    rintro D c pre W hD hpre ⟨⟨⟨rfl, pre', x, rfl, hka, hx⟩, hb1, hb2⟩, hB⟩ hK
    have HE := Lib.hid (HF.out pre' x hka hx hpre)
    have HB1 := Lib.hid hb1
    have HB2 := Lib.hid hb2
    have HB := Lib.hid hB
    have HK := Lib.hid hK
    clear hka hx hb1 hb2 hB hK hpre b1 b2 b3 b4 hB0
    gi_wp2
    refine ⟨by simp, .inl ⟨_, _, rfl, run_takeDeferred HK.out, ?_⟩⟩
    have d1 := cell_kept HB1.out.cell (grownBy_putObj' _ D (.deferred none)) (fun r e => by cases e; exact ⟨_, HK.out, rfl⟩)
    have d2 := cell_kept HB2.out.cell (grownBy_putObj' _ D (.deferred none)) (fun r e => by cases e; exact ⟨_, HK.out, rfl⟩)
    refine ⟨.tuple #[.string ⟨#[]⟩, .bool false], ?_, ret_sb HE.out, HB.out.trans (belowK_b (w := w) (Nat.le_refl _) W D _ _ (by simp at hD; omega) HK.out rfl rfl)⟩
    simp [results, Try.f38, go_sem, d1, d2]
end Go.Proofs.Ytifkgihhdmmhdab
