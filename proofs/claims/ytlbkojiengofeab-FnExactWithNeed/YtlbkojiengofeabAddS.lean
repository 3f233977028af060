/- Contract of spec.l03Add: ascending texts with one more. -/
import Derived.Test.YtlbkojiengofeabOwnO
import Derived.Test.YtlbkojiengofeabIns3
import Derived.Test.YtlbkojiengofeabFindE
import Derived.Laws.Cover1
import Derived.IntWalk
namespace Go.Proofs.Ytlbkojiengofeab
open Go.ChangeShapes Go.WideShapes Go.ChangeAt Go.RowKit Go.Deep

/-- Does a text stand ahead of another one? -/
def ltB (a b : ByteArray) : Bool := Op.bytesLess a.toList b.toList
/-- How many texts at the beginning of D stand ahead of s. -/
def lowN (D : List ByteArray) (s : ByteArray) : Nat := (D.takeWhile fun x => ltB x s).length
def addv (D : List ByteArray) (s : ByteArray) : List ByteArray := if D[lowN D s]? = some s then D else D.take (lowN D s) ++ [s] ++ D.drop (lowN D s)
theorem lowN_eq {s : ByteArray} : ∀ (D : List ByteArray) (i : Nat), (∀ j, j < i → ∃ x, D[j]? = some x ∧ ltB x s = true) → (D.length = i ∨ ∃ x, D[i]? = some x ∧ ltB x s = false) → lowN D s = i := by
  intro D
  induction D with
  | nil =>
    intro i _ h2
    rcases h2 with h | ⟨x, h, _⟩
    · simpa [lowN] using h
    · simp at h
  | cons a D ih =>
    intro i h1 h2
    cases i with
    | zero =>
      rcases h2 with h | ⟨x, h, hx⟩
      · simp at h
      · simp at h; subst h; simp [lowN, hx]
    | succ i =>
      obtain ⟨x, hx, hl⟩ := h1 0 (by omega)
      simp at hx; subst hx
      have := ih i (fun j hj => by have := h1 (j + 1) (by omega); simpa using this) (by
        rcases h2 with h | ⟨x, h, hx⟩
        · left; simpa using h
        · right; exact ⟨x, by simpa using h, hx⟩)
      simp only [lowN] at this ⊢
      simp [hl, this]
theorem addv_len (D : List ByteArray) (s : ByteArray) : (addv D s).length ≤ D.length + 1 := by
  have : lowN D s ≤ D.length := by
    unfold lowN
    exact (List.takeWhile_prefix _).length_le
  unfold addv
  split
  · omega
  · simp; omega
theorem strVals_onecell (l : List ByteArray) : ∀ u ∈ strVals l, u.oneCell' = true := by
  intro u hu
  simp only [strVals, List.mem_map] at hu
  obtain ⟨x, _, rfl⟩ := hu
  rfl
theorem strVals_app (l m : List ByteArray) : strVals (l ++ m) = strVals l ++ strVals m := by simp [strVals]
theorem litOwnS (W : World) (base : Nat) (hb : base ≤ W.heap.size) : (W.alloc (.cells #[] 9)).ownsRow base 9 1 (.slice (some ⟨W.heap.size, 0, none⟩) 0 0) 0 [] := World.ownsRow_lit W #[] 0 hb (by simp) rfl
theorem postS {W w' w1 : World} {n : Nat} {v : Value} {xs : List Value} (hb : Below W.heap.size W w') (ho : w'.ownsRow W.heap.size 9 1 v n xs) (hg : w'.grownBy w1 v.ownBlock) : Below W.heap.size W w1 := hb.grown hg hb.size (fun k hk => (World.ownsRow.lt ho k hk).1)
/-- The cells of block g are the texts D. -/
def CellsS (w : World) (g : Nat) (D : List ByteArray) : Prop := ∀ k u, (strVals D)[k]? = some u → w.cell? ⟨g, k, none⟩ = some u
theorem CellsS.below {w w' : World} {g B : Nat} {D : List ByteArray} (h : CellsS w g D) (hb : Below B w w') (hg : g < B) : CellsS w' g D := fun k u hu => (hb.cell (p := ⟨g, k, none⟩) hg).trans (h k u hu)
theorem own_cellsS {w : World} {base g n cap : Nat} {D : List ByteArray} (h : w.ownsRow base 9 1 (.slice (some ⟨g, 0, none⟩) n cap) n (strVals D)) : CellsS w g D := by
  intro k u hu
  have := World.ownsRow.cells h (g := g) rfl k u hu
  rwa [show (⟨g, 0, none⟩ : Addr).add k = ⟨g, k, none⟩ from by unfold Addr.add; split <;> simp_all] at this
theorem newsS {W w' : World} {gd : Nat} {D : List ByteArray} (hb : Below W.heap.size W w') (hg : gd < W.heap.size) (h : CellsS W gd D) (q : Nat) : ∀ j u, (strVals (D.take q))[j]? = some u → w'.cell? ((⟨gd, 0, none⟩ : Addr).add j) = some u := by
  intro j u hu
  rw [show (⟨gd, 0, none⟩ : Addr).add j = ⟨gd, j, none⟩ from by unfold Addr.add; split <;> simp_all]
  refine h.below hb hg j u ?_
  simp only [strVals, List.map_take, List.getElem?_take] at hu ⊢
  split at hu
  · exact hu
  · cases hu
theorem newsD {W w' : World} {gd : Nat} {D : List ByteArray} (hb : Below W.heap.size W w') (hg : gd < W.heap.size) (h : CellsS W gd D) (q : Nat) : ∀ j u, (strVals (D.drop q))[j]? = some u → w'.cell? ((⟨gd, q, none⟩ : Addr).add j) = some u := by
  intro j u hu
  rw [show (⟨gd, q, none⟩ : Addr).add j = ⟨gd, q + j, none⟩ from by unfold Addr.add; split <;> simp_all]
  refine h.below hb hg (q + j) u ?_
  simpa [strVals, List.getElem?_drop] using hu
theorem oneS_new (W : World) (s : ByteArray) (t : TypeId) : ∀ j u, (strVals [s])[j]? = some u → (W.alloc (.cells #[.string s] t)).cell? ((⟨W.heap.size, 0, none⟩ : Addr).add j) = some u := by
  intro j u hu
  rw [show (⟨W.heap.size, 0, none⟩ : Addr).add j = ⟨W.heap.size, j, none⟩ from by unfold Addr.add; split <;> simp_all, World.cell?_alloc_at _ _ _ _ rfl]
  cases j with
  | zero => simpa [strVals] using hu
  | succ j => simp [strVals] at hu
theorem ins_ownS {W w3 : World} {base q : Nat} {v : Value} {D : List ByteArray} {s : ByteArray} (h : w3.ownsRow W.heap.size 9 1 v (0 + q + 1 + (D.length - q)) ([] ++ strVals (D.take q) ++ strVals [s] ++ strVals (D.drop q))) (hn : ¬ v = .slice none 0 0) (hb : base ≤ W.heap.size) (hq : q ≤ D.length := by omega) : OwnL w3 base v (D.take q ++ [s] ++ D.drop q) := by
  have hl : 0 + q + 1 + (D.length - q) = (D.take q ++ [s] ++ D.drop q).length := by simp; omega
  rw [hl, List.nil_append, ← strVals_app, ← strVals_app] at h
  refine ⟨⟨h.1, ?_⟩, ?_⟩
  · rcases h.2 with h' | ⟨g', cap', cur, h', hx, rest⟩
    · exact .inl h'
    · exact .inr ⟨g', cap', cur, h', Nat.le_trans hb hx, rest⟩
  · obtain ⟨_, ⟨rfl, _⟩ | ⟨g', cap', cur, rfl, _⟩⟩ := h
    · exact absurd rfl hn
    · exact ⟨g', cap', rfl⟩
set_option maxHeartbeats 4000000 in
set_option maxRecDepth 8000 in
theorem add_spec (D : List ByteArray) (s : ByteArray) (gd cd base : Nat) (w : World) (hm : D.length ≤ 4194304) (hbs : base ≤ w.heap.size) (h : OwnL w base (.slice (some ⟨gd, 0, none⟩) D.length cd) D) :
    Calls Try.prog 51 #[.slice (some ⟨gd, 0, none⟩) D.length cd, .string s] w fun e w' => ∃ v, e = .returned v ∧ OwnL w' base v (addv D s) ∧ Below w.heap.size w w' := by
  obtain ⟨i0, hi0, hz0, hz1, hz2⟩ := info_parts Try.info9
  have zd : gd < w.heap.size := (World.ownsRow.lt h.1 gd rfl).2
  have hcd : D.length ≤ cd := by
    rcases h.1.2 with ⟨h', _⟩ | ⟨g', cap', cur, h', _, _, hnc, _⟩
    · simp at h'
    · simp at h'; obtain ⟨_, rfl⟩ := h'; exact hnc
  have RD := Lib.hid (own_cellsS h.1)
  have OW := Lib.hid h
  have HG : Hid (∀ j, j < D.length → ∃ x, D[j]? = some x) := Lib.hid (fun j hj => ⟨_, List.getElem?_eq_getElem hj⟩)
  have HLo : Hid (∀ i, (∀ j, j < i → ∃ x, D[j]? = some x ∧ ltB x s = true) → (D.length = i ∨ ∃ x, D[i]? = some x ∧ ltB x s = false) → lowN D s = i) := Lib.hid (lowN_eq D)
  have HA : Hid (addv D s = if D[lowN D s]? = some s then D else D.take (lowN D s) ++ [s] ++ D.drop (lowN D s)) := Lib.hid rfl
  generalize addv D s = r at HA
  clear h
  go_enter Try.func51, Try.ntmps51
  go_wp2_with fail
  go_loopw [5] (fun u wr => ∃ i : Nat, u = .int .i64 i ∧ i ≤ D.length ∧ (∀ j, j < i → ∃ x, D[j]? = some x ∧ ltB x s = true) ∧ w = wr) (fun u _ => D.length - (intOf u).toNat)
  case atStart => exact ⟨0, rfl, Nat.zero_le _, fun j hj => by omega, rfl⟩
  case round =>
    obtain ⟨q, rfl, hq, hr, rfl⟩ := hrel
    have HR := Lib.hid hr
    clear hr
    have hq3 : (q : Int) ≤ (cd : Int) := by omega
    have hszB : base ≤ w.heap.size := hbs
    by_cases hlt : q < D.length
    · have hlt2 : (q : Int) < (D.length : Int) := by omega
      obtain ⟨x, hx⟩ := HG.out q hlt
      have c := RD.out q (.string x) (by simp [strVals, hx])
      have HX := Lib.hid hx
      clear hx
      cases hl : ltB x s with
      | true =>
        have HS : Hid (∀ j, j < q + 1 → ∃ x, D[j]? = some x ∧ ltB x s = true) := Lib.hid (fun j hj => by
          by_cases e : j = q
          · subst e; exact ⟨x, HX.out, hl⟩
          · exact HR.out j (by omega))
        have hl2 : Op.bytesLess x.toList s.toList = true := hl
        clear hl
        go_wp2_with fail
        go_roundw
        case rel => exact ⟨q + 1, by go_num, by omega, HS.out, by first | rfl | trivial⟩
        case measure => simp [intOf]; omega
      | false =>
        have HLw := Lib.hid (HLo.out q HR.out (.inr ⟨x, HX.out, hl⟩))
        have hl2 : Op.bytesLess x.toList s.toList = false := hl
        clear hl
        by_cases hxs : x = s
        · have HF : Hid (r = D) := Lib.hid (by rw [HA.out, HLw.out, HX.out, hxs, if_pos rfl])
          have q2 := baE_eq hxs
          clear hxs
          go_wp2_with fail
          go_ret
          exact ⟨_, rfl, by rw [HF.out]; exact OW.out, Below.refl _ _⟩
        · have HPl : Hid (r = D.take q ++ [s] ++ D.drop q) := Lib.hid (by rw [HA.out, HLw.out, HX.out, if_neg (fun e => hxs (Option.some.inj e))])
          have q2 := baE_ne hxs
          clear hxs
          have HL1 : Hid ((strVals (D.take q)).length = q * 1) := Lib.hid (by rw [strVals_len]; simp; omega)
          have HM1 : Hid (0 + q ≤ maxLen) := Lib.hid (by simp only [maxLen]; omega)
          have HC1 : Hid ((0 + q) * 16 ≤ 140737488355328) := Lib.hid (by omega)
          have HM2 : Hid (0 + q + 1 ≤ maxLen) := Lib.hid (by simp only [maxLen]; omega)
          have HC2 : Hid ((0 + q + 1) * 16 ≤ 140737488355328) := Lib.hid (by omega)
          have HL3 : Hid ((strVals (D.drop q)).length = (D.length - q) * 1) := Lib.hid (by rw [strVals_len]; simp)
          have HM3 : Hid (0 + q + 1 + (D.length - q) ≤ maxLen) := Lib.hid (by simp only [maxLen]; omega)
          have HC3 : Hid ((0 + q + 1 + (D.length - q)) * 16 ≤ 140737488355328) := Lib.hid (by omega)
          have hcq2 : (q : Int) < (cd : Int) := by omega
          have hcq3 : ¬ cd = q := by omega
          go_wp2_with fail
          have HN3 : Hid (∀ w', Below w.heap.size w w' → ∀ j u, (strVals (D.drop q))[j]? = some u → w'.cell? ((⟨gd, q, none⟩ : Addr).add j) = some u) := Lib.hid (fun w' hb => newsD hb zd RD.out q)
          go_region_held_law (fun w' => True) (trivial) (first | (refine step_append_mine rfl (.tmp 33) (.tmp 36) 30 rfl w.heap.size 9 i0 (.string ⟨#[]⟩) 1 16 Try.underlying30 hi0 hz0 hz1 hz2 rfl (by decide) (.slice (some ⟨w.heap.size, 0, none⟩) 0 0) 0 [] (by first | rfl | (simp [Act.eval]; done) | simp [Act.eval, Act.put]) (litOwnS w.drew _ (Nat.le_refl _)) ⟨gd, 0, none⟩ q cd (strVals (D.take q)) (by first | rfl | (simp [Act.eval]; done) | simp [Act.eval, Act.put]) HL1.out (newsS (kb1 w _) zd RD.out q) (strVals_onecell _) HM1.out HC1.out (kb1 w _).size ?_; intro v1 w1 hown1 hgrow1 hnil1; have B47 := Lib.hid (postS (kb1 w _) (litOwnS w.drew _ (Nat.le_refl _)) hgrow1); have O47 := Lib.hid hown1; have N47 := Lib.hid (nil1 hnil1); clear hown1 hgrow1 hnil1) | (refine step_append_mine rfl (.tmp 33) (.tmp 36) 30 rfl w.heap.size 9 i0 (.string ⟨#[]⟩) 1 16 Try.underlying30 hi0 hz0 hz1 hz2 rfl (by decide) (.slice (some ⟨w.heap.size, 0, none⟩) 0 0) 0 [] (by first | rfl | (simp [Act.eval]; done) | simp [Act.eval, Act.put]) (World.ownsRow.alloc (litOwnS w.drew _ (Nat.le_refl _)) (.cells #[.string s] 9)) ⟨gd, 0, none⟩ q cd (strVals (D.take q)) (by first | rfl | (simp [Act.eval]; done) | simp [Act.eval, Act.put]) HL1.out (newsS (kb2 w _ _) zd RD.out q) (strVals_onecell _) HM1.out HC1.out (kb2 w _ _).size ?_; intro v1 w1 hown1 hgrow1 hnil1; have B47 := Lib.hid (postS (kb2 w _ _) (World.ownsRow.alloc (litOwnS w.drew _ (Nat.le_refl _)) (.cells #[.string s] 9)) hgrow1); have O47 := Lib.hid hown1; have N47 := Lib.hid (nil1 hnil1); have E52 := Lib.hid (newsG (oneS_new (w.drew.alloc (.cells #[] 9)) s 9) hgrow1 (by simp [Value.ownBlock])); clear hown1 hgrow1 hnil1) | (refine step_append_mine rfl (.tmp 33) (.tmp 36) 30 rfl w.heap.size 9 i0 (.string ⟨#[]⟩) 1 16 Try.underlying30 hi0 hz0 hz1 hz2 rfl (by decide) (.slice (some ⟨(w.drew.alloc (.cells #[.string s] 9)).heap.size, 0, none⟩) 0 0) 0 [] (by first | rfl | (simp [Act.eval]; done) | simp [Act.eval, Act.put]) (litOwnS (w.drew.alloc (.cells #[.string s] 9)) w.heap.size (kb1 w _).size) ⟨gd, 0, none⟩ q cd (strVals (D.take q)) (by first | rfl | (simp [Act.eval]; done) | simp [Act.eval, Act.put]) HL1.out (newsS (kb2 w _ _) zd RD.out q) (strVals_onecell _) HM1.out HC1.out (kb2 w _ _).size ?_; intro v1 w1 hown1 hgrow1 hnil1; have B47 := Lib.hid (postS (kb2 w _ _) (litOwnS (w.drew.alloc (.cells #[.string s] 9)) w.heap.size (kb1 w _).size) hgrow1); have O47 := Lib.hid hown1; have N47 := Lib.hid (nil1 hnil1); have E52 := Lib.hid (newsG (newsA (oneS_new w.drew s 9)) hgrow1 (by simp [Value.ownBlock])); clear hown1 hgrow1 hnil1) | (refine step_append_mine rfl (.tmp 37) (.tmp 39) 30 rfl w.heap.size 9 i0 (.string ⟨#[]⟩) 1 16 Try.underlying30 hi0 hz0 hz1 hz2 rfl (by decide) v1 (0 + q) ([] ++ strVals (D.take q)) (by first | rfl | (simp [Act.eval]; done) | simp [Act.eval, Act.put]) (World.ownsRow.alloc O47.out (.cells #[.string s] 9)) ⟨w1.heap.size, 0, none⟩ 1 1 (strVals [s]) (by first | rfl | (simp [Act.eval]; done) | simp [Act.eval, Act.put]) (strVals_len _) (oneS_new w1 s _) (strVals_onecell _) HM2.out HC2.out (kbA B47.out _).size ?_; intro v2 w2 hown2 hgrow2 hnil2; have B53 := Lib.hid (postS (kbA B47.out _) (World.ownsRow.alloc O47.out (.cells #[.string s] 9)) hgrow2); have O53 := Lib.hid hown2; have N53 := Lib.hid (nil2 hnil2 N47.out); clear hown2 hgrow2 hnil2) | (refine step_append_mine rfl (.tmp 37) (.tmp 39) 30 rfl w.heap.size 9 i0 (.string ⟨#[]⟩) 1 16 Try.underlying30 hi0 hz0 hz1 hz2 rfl (by decide) v1 (0 + q) ([] ++ strVals (D.take q)) (by first | rfl | (simp [Act.eval]; done) | simp [Act.eval, Act.put]) O47.out ⟨(w.drew.alloc (.cells #[] 9)).heap.size, 0, none⟩ 1 1 (strVals [s]) (by first | rfl | (simp [Act.eval]; done) | simp [Act.eval, Act.put]) (strVals_len _) E52.out (strVals_onecell _) HM2.out HC2.out B47.out.size ?_; intro v2 w2 hown2 hgrow2 hnil2; have B53 := Lib.hid (postS B47.out O47.out hgrow2); have O53 := Lib.hid hown2; have N53 := Lib.hid (nil2 hnil2 N47.out); clear hown2 hgrow2 hnil2) | (refine step_append_mine rfl (.tmp 37) (.tmp 39) 30 rfl w.heap.size 9 i0 (.string ⟨#[]⟩) 1 16 Try.underlying30 hi0 hz0 hz1 hz2 rfl (by decide) v1 (0 + q) ([] ++ strVals (D.take q)) (by first | rfl | (simp [Act.eval]; done) | simp [Act.eval, Act.put]) O47.out ⟨w.drew.heap.size, 0, none⟩ 1 1 (strVals [s]) (by first | rfl | (simp [Act.eval]; done) | simp [Act.eval, Act.put]) (strVals_len _) E52.out (strVals_onecell _) HM2.out HC2.out B47.out.size ?_; intro v2 w2 hown2 hgrow2 hnil2; have B53 := Lib.hid (postS B47.out O47.out hgrow2); have O53 := Lib.hid hown2; have N53 := Lib.hid (nil2 hnil2 N47.out); clear hown2 hgrow2 hnil2) | (refine step_append_mine rfl (.tmp 40) (.tmp 43) 30 rfl w.heap.size 9 i0 (.string ⟨#[]⟩) 1 16 Try.underlying30 hi0 hz0 hz1 hz2 rfl (by decide) v2 (0 + q + 1) ([] ++ strVals (D.take q) ++ strVals [s]) (by first | rfl | (simp [Act.eval]; done) | simp [Act.eval, Act.put]) O53.out ⟨gd, q, none⟩ (D.length - q) (cd - q) (strVals (D.drop q)) (by first | rfl | (simp [Act.eval]; done) | (simp [Act.eval, Act.put]; done) | simp [Act.eval, Act.put, hcq3]) HL3.out (HN3.out _ B53.out) (strVals_onecell _) HM3.out HC3.out B53.out.size ?_; intro v3 w3 hown3 hgrow3 hnil3; have B57 := Lib.hid (postS B53.out O53.out hgrow3); have O57 := Lib.hid hown3; have N57 := Lib.hid (nil2 hnil3 N53.out); clear hown3 hgrow3 hnil3))
          all_goals
            have hO := ins_ownS O57.out N57.out hszB
            rw [← HPl.out] at hO
            have O9 := Lib.hid hO
            have B9 := Lib.hid B57.out
            clear hO O57 N57 B57 O53 N53 B53 O47 N47 B47
            go_wp2_with fail
            go_ret
            exact ⟨v3, by simp, O9.out, B9.out⟩
    · have hlt2 : ¬ (q : Int) < (D.length : Int) := by omega
      have hqe : q = D.length := by omega
      have HLw := Lib.hid (HLo.out q HR.out (.inl hqe.symm))
      have HPl : Hid (r = D.take q ++ [s] ++ D.drop q) := Lib.hid (by rw [HA.out, HLw.out, if_neg (by rw [List.getElem?_eq_none (by omega)]; simp)])
      clear hqe
      have HL1 : Hid ((strVals (D.take q)).length = q * 1) := Lib.hid (by rw [strVals_len]; simp; omega)
      have HM1 : Hid (0 + q ≤ maxLen) := Lib.hid (by simp only [maxLen]; omega)
      have HC1 : Hid ((0 + q) * 16 ≤ 140737488355328) := Lib.hid (by omega)
      have HM2 : Hid (0 + q + 1 ≤ maxLen) := Lib.hid (by simp only [maxLen]; omega)
      have HC2 : Hid ((0 + q + 1) * 16 ≤ 140737488355328) := Lib.hid (by omega)
      have HL3 : Hid ((strVals (D.drop q)).length = (D.length - q) * 1) := Lib.hid (by rw [strVals_len]; simp)
      have HM3 : Hid (0 + q + 1 + (D.length - q) ≤ maxLen) := Lib.hid (by simp only [maxLen]; omega)
      have HC3 : Hid ((0 + q + 1 + (D.length - q)) * 16 ≤ 140737488355328) := Lib.hid (by omega)
      by_cases hcq : q < cd
      · have hcq2 : (q : Int) < (cd : Int) := by omega
        have hcq3 : ¬ cd = q := by omega
        go_wp2_with fail
        have HN3 : Hid (∀ w', Below w.heap.size w w' → ∀ j u, (strVals (D.drop q))[j]? = some u → w'.cell? ((⟨gd, q, none⟩ : Addr).add j) = some u) := Lib.hid (fun w' hb => newsD hb zd RD.out q)
        go_region_held_law (fun w' => True) (trivial) (first | (refine step_append_mine rfl (.tmp 33) (.tmp 36) 30 rfl w.heap.size 9 i0 (.string ⟨#[]⟩) 1 16 Try.underlying30 hi0 hz0 hz1 hz2 rfl (by decide) (.slice (some ⟨w.heap.size, 0, none⟩) 0 0) 0 [] (by first | rfl | (simp [Act.eval]; done) | simp [Act.eval, Act.put]) (litOwnS w.drew _ (Nat.le_refl _)) ⟨gd, 0, none⟩ q cd (strVals (D.take q)) (by first | rfl | (simp [Act.eval]; done) | simp [Act.eval, Act.put]) HL1.out (newsS (kb1 w _) zd RD.out q) (strVals_onecell _) HM1.out HC1.out (kb1 w _).size ?_; intro v1 w1 hown1 hgrow1 hnil1; have B47 := Lib.hid (postS (kb1 w _) (litOwnS w.drew _ (Nat.le_refl _)) hgrow1); have O47 := Lib.hid hown1; have N47 := Lib.hid (nil1 hnil1); clear hown1 hgrow1 hnil1) | (refine step_append_mine rfl (.tmp 33) (.tmp 36) 30 rfl w.heap.size 9 i0 (.string ⟨#[]⟩) 1 16 Try.underlying30 hi0 hz0 hz1 hz2 rfl (by decide) (.slice (some ⟨w.heap.size, 0, none⟩) 0 0) 0 [] (by first | rfl | (simp [Act.eval]; done) | simp [Act.eval, Act.put]) (World.ownsRow.alloc (litOwnS w.drew _ (Nat.le_refl _)) (.cells #[.string s] 9)) ⟨gd, 0, none⟩ q cd (strVals (D.take q)) (by first | rfl | (simp [Act.eval]; done) | simp [Act.eval, Act.put]) HL1.out (newsS (kb2 w _ _) zd RD.out q) (strVals_onecell _) HM1.out HC1.out (kb2 w _ _).size ?_; intro v1 w1 hown1 hgrow1 hnil1; have B47 := Lib.hid (postS (kb2 w _ _) (World.ownsRow.alloc (litOwnS w.drew _ (Nat.le_refl _)) (.cells #[.string s] 9)) hgrow1); have O47 := Lib.hid hown1; have N47 := Lib.hid (nil1 hnil1); have E52 := Lib.hid (newsG (oneS_new (w.drew.alloc (.cells #[] 9)) s 9) hgrow1 (by simp [Value.ownBlock])); clear hown1 hgrow1 hnil1) | (refine step_append_mine rfl (.tmp 33) (.tmp 36) 30 rfl w.heap.size 9 i0 (.string ⟨#[]⟩) 1 16 Try.underlying30 hi0 hz0 hz1 hz2 rfl (by decide) (.slice (some ⟨(w.drew.alloc (.cells #[.string s] 9)).heap.size, 0, none⟩) 0 0) 0 [] (by first | rfl | (simp [Act.eval]; done) | simp [Act.eval, Act.put]) (litOwnS (w.drew.alloc (.cells #[.string s] 9)) w.heap.size (kb1 w _).size) ⟨gd, 0, none⟩ q cd (strVals (D.take q)) (by first | rfl | (simp [Act.eval]; done) | simp [Act.eval, Act.put]) HL1.out (newsS (kb2 w _ _) zd RD.out q) (strVals_onecell _) HM1.out HC1.out (kb2 w _ _).size ?_; intro v1 w1 hown1 hgrow1 hnil1; have B47 := Lib.hid (postS (kb2 w _ _) (litOwnS (w.drew.alloc (.cells #[.string s] 9)) w.heap.size (kb1 w _).size) hgrow1); have O47 := Lib.hid hown1; have N47 := Lib.hid (nil1 hnil1); have E52 := Lib.hid (newsG (newsA (oneS_new w.drew s 9)) hgrow1 (by simp [Value.ownBlock])); clear hown1 hgrow1 hnil1) | (refine step_append_mine rfl (.tmp 37) (.tmp 39) 30 rfl w.heap.size 9 i0 (.string ⟨#[]⟩) 1 16 Try.underlying30 hi0 hz0 hz1 hz2 rfl (by decide) v1 (0 + q) ([] ++ strVals (D.take q)) (by first | rfl | (simp [Act.eval]; done) | simp [Act.eval, Act.put]) (World.ownsRow.alloc O47.out (.cells #[.string s] 9)) ⟨w1.heap.size, 0, none⟩ 1 1 (strVals [s]) (by first | rfl | (simp [Act.eval]; done) | simp [Act.eval, Act.put]) (strVals_len _) (oneS_new w1 s _) (strVals_onecell _) HM2.out HC2.out (kbA B47.out _).size ?_; intro v2 w2 hown2 hgrow2 hnil2; have B53 := Lib.hid (postS (kbA B47.out _) (World.ownsRow.alloc O47.out (.cells #[.string s] 9)) hgrow2); have O53 := Lib.hid hown2; have N53 := Lib.hid (nil2 hnil2 N47.out); clear hown2 hgrow2 hnil2) | (refine step_append_mine rfl (.tmp 37) (.tmp 39) 30 rfl w.heap.size 9 i0 (.string ⟨#[]⟩) 1 16 Try.underlying30 hi0 hz0 hz1 hz2 rfl (by decide) v1 (0 + q) ([] ++ strVals (D.take q)) (by first | rfl | (simp [Act.eval]; done) | simp [Act.eval, Act.put]) O47.out ⟨(w.drew.alloc (.cells #[] 9)).heap.size, 0, none⟩ 1 1 (strVals [s]) (by first | rfl | (simp [Act.eval]; done) | simp [Act.eval, Act.put]) (strVals_len _) E52.out (strVals_onecell _) HM2.out HC2.out B47.out.size ?_; intro v2 w2 hown2 hgrow2 hnil2; have B53 := Lib.hid (postS B47.out O47.out hgrow2); have O53 := Lib.hid hown2; have N53 := Lib.hid (nil2 hnil2 N47.out); clear hown2 hgrow2 hnil2) | (refine step_append_mine rfl (.tmp 37) (.tmp 39) 30 rfl w.heap.size 9 i0 (.string ⟨#[]⟩) 1 16 Try.underlying30 hi0 hz0 hz1 hz2 rfl (by decide) v1 (0 + q) ([] ++ strVals (D.take q)) (by first | rfl | (simp [Act.eval]; done) | simp [Act.eval, Act.put]) O47.out ⟨w.drew.heap.size, 0, none⟩ 1 1 (strVals [s]) (by first | rfl | (simp [Act.eval]; done) | simp [Act.eval, Act.put]) (strVals_len _) E52.out (strVals_onecell _) HM2.out HC2.out B47.out.size ?_; intro v2 w2 hown2 hgrow2 hnil2; have B53 := Lib.hid (postS B47.out O47.out hgrow2); have O53 := Lib.hid hown2; have N53 := Lib.hid (nil2 hnil2 N47.out); clear hown2 hgrow2 hnil2) | (refine step_append_mine rfl (.tmp 40) (.tmp 43) 30 rfl w.heap.size 9 i0 (.string ⟨#[]⟩) 1 16 Try.underlying30 hi0 hz0 hz1 hz2 rfl (by decide) v2 (0 + q + 1) ([] ++ strVals (D.take q) ++ strVals [s]) (by first | rfl | (simp [Act.eval]; done) | simp [Act.eval, Act.put]) O53.out ⟨gd, q, none⟩ (D.length - q) (cd - q) (strVals (D.drop q)) (by first | rfl | (simp [Act.eval]; done) | (simp [Act.eval, Act.put]; done) | simp [Act.eval, Act.put, hcq3]) HL3.out (HN3.out _ B53.out) (strVals_onecell _) HM3.out HC3.out B53.out.size ?_; intro v3 w3 hown3 hgrow3 hnil3; have B57 := Lib.hid (postS B53.out O53.out hgrow3); have O57 := Lib.hid hown3; have N57 := Lib.hid (nil2 hnil3 N53.out); clear hown3 hgrow3 hnil3))
        all_goals
          have hO := ins_ownS O57.out N57.out hszB
          rw [← HPl.out] at hO
          have O9 := Lib.hid hO
          have B9 := Lib.hid B57.out
          clear hO O57 N57 B57 O53 N53 B53 O47 N47 B47
          go_wp2_with fail
          go_ret
          exact ⟨v3, by simp, O9.out, B9.out⟩
      · obtain rfl : cd = q := by omega
        clear hcq
        go_wp2_with fail
        have HN3 : Hid (∀ w', Below w.heap.size w w' → ∀ j u, (strVals (D.drop cd))[j]? = some u → w'.cell? ((⟨gd, 0, none⟩ : Addr).add j) = some u) := Lib.hid (fun w' hb j u hu => by rw [List.drop_eq_nil_of_le (by omega)] at hu; simp [strVals] at hu)
        go_region_held_law (fun w' => True) (trivial) (first | (refine step_append_mine rfl (.tmp 33) (.tmp 36) 30 rfl w.heap.size 9 i0 (.string ⟨#[]⟩) 1 16 Try.underlying30 hi0 hz0 hz1 hz2 rfl (by decide) (.slice (some ⟨w.heap.size, 0, none⟩) 0 0) 0 [] (by first | rfl | (simp [Act.eval]; done) | simp [Act.eval, Act.put]) (litOwnS w.drew _ (Nat.le_refl _)) ⟨gd, 0, none⟩ cd cd (strVals (D.take cd)) (by first | rfl | (simp [Act.eval]; done) | simp [Act.eval, Act.put]) HL1.out (newsS (kb1 w _) zd RD.out cd) (strVals_onecell _) HM1.out HC1.out (kb1 w _).size ?_; intro v1 w1 hown1 hgrow1 hnil1; have B47 := Lib.hid (postS (kb1 w _) (litOwnS w.drew _ (Nat.le_refl _)) hgrow1); have O47 := Lib.hid hown1; have N47 := Lib.hid (nil1 hnil1); clear hown1 hgrow1 hnil1) | (refine step_append_mine rfl (.tmp 33) (.tmp 36) 30 rfl w.heap.size 9 i0 (.string ⟨#[]⟩) 1 16 Try.underlying30 hi0 hz0 hz1 hz2 rfl (by decide) (.slice (some ⟨w.heap.size, 0, none⟩) 0 0) 0 [] (by first | rfl | (simp [Act.eval]; done) | simp [Act.eval, Act.put]) (World.ownsRow.alloc (litOwnS w.drew _ (Nat.le_refl _)) (.cells #[.string s] 9)) ⟨gd, 0, none⟩ cd cd (strVals (D.take cd)) (by first | rfl | (simp [Act.eval]; done) | simp [Act.eval, Act.put]) HL1.out (newsS (kb2 w _ _) zd RD.out cd) (strVals_onecell _) HM1.out HC1.out (kb2 w _ _).size ?_; intro v1 w1 hown1 hgrow1 hnil1; have B47 := Lib.hid (postS (kb2 w _ _) (World.ownsRow.alloc (litOwnS w.drew _ (Nat.le_refl _)) (.cells #[.string s] 9)) hgrow1); have O47 := Lib.hid hown1; have N47 := Lib.hid (nil1 hnil1); have E52 := Lib.hid (newsG (oneS_new (w.drew.alloc (.cells #[] 9)) s 9) hgrow1 (by simp [Value.ownBlock])); clear hown1 hgrow1 hnil1) | (refine step_append_mine rfl (.tmp 33) (.tmp 36) 30 rfl w.heap.size 9 i0 (.string ⟨#[]⟩) 1 16 Try.underlying30 hi0 hz0 hz1 hz2 rfl (by decide) (.slice (some ⟨(w.drew.alloc (.cells #[.string s] 9)).heap.size, 0, none⟩) 0 0) 0 [] (by first | rfl | (simp [Act.eval]; done) | simp [Act.eval, Act.put]) (litOwnS (w.drew.alloc (.cells #[.string s] 9)) w.heap.size (kb1 w _).size) ⟨gd, 0, none⟩ cd cd (strVals (D.take cd)) (by first | rfl | (simp [Act.eval]; done) | simp [Act.eval, Act.put]) HL1.out (newsS (kb2 w _ _) zd RD.out cd) (strVals_onecell _) HM1.out HC1.out (kb2 w _ _).size ?_; intro v1 w1 hown1 hgrow1 hnil1; have B47 := Lib.hid (postS (kb2 w _ _) (litOwnS (w.drew.alloc (.cells #[.string s] 9)) w.heap.size (kb1 w _).size) hgrow1); have O47 := Lib.hid hown1; have N47 := Lib.hid (nil1 hnil1); have E52 := Lib.hid (newsG (newsA (oneS_new w.drew s 9)) hgrow1 (by simp [Value.ownBlock])); clear hown1 hgrow1 hnil1) | (refine step_append_mine rfl (.tmp 37) (.tmp 39) 30 rfl w.heap.size 9 i0 (.string ⟨#[]⟩) 1 16 Try.underlying30 hi0 hz0 hz1 hz2 rfl (by decide) v1 (0 + cd) ([] ++ strVals (D.take cd)) (by first | rfl | (simp [Act.eval]; done) | simp [Act.eval, Act.put]) (World.ownsRow.alloc O47.out (.cells #[.string s] 9)) ⟨w1.heap.size, 0, none⟩ 1 1 (strVals [s]) (by first | rfl | (simp [Act.eval]; done) | simp [Act.eval, Act.put]) (strVals_len _) (oneS_new w1 s _) (strVals_onecell _) HM2.out HC2.out (kbA B47.out _).size ?_; intro v2 w2 hown2 hgrow2 hnil2; have B53 := Lib.hid (postS (kbA B47.out _) (World.ownsRow.alloc O47.out (.cells #[.string s] 9)) hgrow2); have O53 := Lib.hid hown2; have N53 := Lib.hid (nil2 hnil2 N47.out); clear hown2 hgrow2 hnil2) | (refine step_append_mine rfl (.tmp 37) (.tmp 39) 30 rfl w.heap.size 9 i0 (.string ⟨#[]⟩) 1 16 Try.underlying30 hi0 hz0 hz1 hz2 rfl (by decide) v1 (0 + cd) ([] ++ strVals (D.take cd)) (by first | rfl | (simp [Act.eval]; done) | simp [Act.eval, Act.put]) O47.out ⟨(w.drew.alloc (.cells #[] 9)).heap.size, 0, none⟩ 1 1 (strVals [s]) (by first | rfl | (simp [Act.eval]; done) | simp [Act.eval, Act.put]) (strVals_len _) E52.out (strVals_onecell _) HM2.out HC2.out B47.out.size ?_; intro v2 w2 hown2 hgrow2 hnil2; have B53 := Lib.hid (postS B47.out O47.out hgrow2); have O53 := Lib.hid hown2; have N53 := Lib.hid (nil2 hnil2 N47.out); clear hown2 hgrow2 hnil2) | (refine step_append_mine rfl (.tmp 37) (.tmp 39) 30 rfl w.heap.size 9 i0 (.string ⟨#[]⟩) 1 16 Try.underlying30 hi0 hz0 hz1 hz2 rfl (by decide) v1 (0 + cd) ([] ++ strVals (D.take cd)) (by first | rfl | (simp [Act.eval]; done) | simp [Act.eval, Act.put]) O47.out ⟨w.drew.heap.size, 0, none⟩ 1 1 (strVals [s]) (by first | rfl | (simp [Act.eval]; done) | simp [Act.eval, Act.put]) (strVals_len _) E52.out (strVals_onecell _) HM2.out HC2.out B47.out.size ?_; intro v2 w2 hown2 hgrow2 hnil2; have B53 := Lib.hid (postS B47.out O47.out hgrow2); have O53 := Lib.hid hown2; have N53 := Lib.hid (nil2 hnil2 N47.out); clear hown2 hgrow2 hnil2) | (refine step_append_mine rfl (.tmp 40) (.tmp 43) 30 rfl w.heap.size 9 i0 (.string ⟨#[]⟩) 1 16 Try.underlying30 hi0 hz0 hz1 hz2 rfl (by decide) v2 (0 + cd + 1) ([] ++ strVals (D.take cd) ++ strVals [s]) (by first | rfl | (simp [Act.eval]; done) | simp [Act.eval, Act.put]) O53.out ⟨gd, 0, none⟩ (D.length - cd) 0 (strVals (D.drop cd)) (by first | rfl | (simp [Act.eval]; done) | (simp [Act.eval, Act.put]; done) | (simp [Act.eval, Act.put]; omega)) HL3.out (HN3.out _ B53.out) (strVals_onecell _) HM3.out HC3.out B53.out.size ?_; intro v3 w3 hown3 hgrow3 hnil3; have B57 := Lib.hid (postS B53.out O53.out hgrow3); have O57 := Lib.hid hown3; have N57 := Lib.hid (nil2 hnil3 N53.out); clear hown3 hgrow3 hnil3))
        all_goals
          have hO := ins_ownS O57.out N57.out hszB
          rw [← HPl.out] at hO
          have O9 := Lib.hid hO
          have B9 := Lib.hid B57.out
          clear hO O57 N57 B57 O53 N53 B53 O47 N47 B47
          go_wp2_with fail
          go_ret
          exact ⟨v3, by simp, O9.out, B9.out⟩
end Go.Proofs.Ytlbkojiengofeab
