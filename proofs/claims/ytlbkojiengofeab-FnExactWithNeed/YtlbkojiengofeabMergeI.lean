/- Contract of impl.Merge. -/
import Derived.Test.YtlbkojiengofeabCopyI
import Derived.Test.YtlbkojiengofeabPathsI
import Derived.Test.YtlbkojiengofeabListOkI
namespace Go.Proofs.Ytlbkojiengofeab
open Go.ChangeShapes Go.WideShapes Go.ChangeAt Go.RowKit Go.Deep Go.Maps

theorem mergev_len (L M : List Ent) : (mergev L M).length ≤ L.length + M.length := by
  have := mergeTo_len L M L.length
  rw [mergev]
  split
  · simp; omega
  · omega
/-- A row of entries of the call's own, perhaps nil. -/
def OwnN (w : World) (base : Nat) (v : Value) (L : List Ent) : Prop := w.ownsRow base 51 10 v L.length (entVals L)
theorem OwnN.nil (w : World) (base : Nat) : OwnN w base (.slice none 0 0) [] := ⟨rfl, .inl ⟨rfl, rfl⟩⟩
theorem OwnN.cases {w : World} {base : Nat} {v : Value} {L : List Ent} (h : OwnN w base v L) : (v = .slice none 0 0 ∧ L = []) ∨ OwnE w base v L := by
  rcases h.2 with ⟨rfl, hn⟩ | ⟨g, cap, cur, rfl, _⟩
  · exact .inl ⟨rfl, List.eq_nil_of_length_eq_zero hn⟩
  · exact .inr ⟨h, g, cap, rfl⟩
theorem OwnN.ne {w : World} {base b : Nat} {v : Value} {L : List Ent} (h : OwnN w base v L) (hb : b < base) : some b ≠ v.ownBlock := by
  rcases h.2 with ⟨rfl, _⟩ | ⟨g, cap, cur, rfl, hg, _⟩
  · simp [Value.ownBlock]
  · simp only [Value.ownBlock, ne_eq, Option.some.injEq]; omega
theorem OwnN.block {w : World} {base : Nat} {v : Value} {L : List Ent} (h : OwnN w base v L) : ∀ b, v.ownBlock = some b → base ≤ b := by
  intro b hb
  rcases h.2 with ⟨rfl, _⟩ | ⟨g, cap, cur, rfl, hg, _⟩
  · simp [Value.ownBlock] at hb
  · simp only [Value.ownBlock, Option.some.injEq] at hb; omega
theorem ownN_app {w1 : World} {base : Nat} {v' : Value} {D M : List Ent} {n m : Nat} (h : w1.ownsRow base 51 10 v' (n + m) (entVals D ++ entVals M)) (hn : n = D.length) (hm : m = M.length) : OwnN w1 base v' (D ++ M) := by
  subst hn; subst hm
  rw [← entVals_app, show D.length + M.length = (D ++ M).length from by simp] at h
  exact h
theorem listOk_nil (w : World) : Calls Try.prog 35 #[.slice none 0 0] w fun e w' => e = .returned (.bool (listOkv [])) ∧ Below w.heap.size w w' := by
  have hmm := @run_makeMap Try.prog
  go_enter Try.func35, Try.ntmps35
  go_wp2_with fail
  refine wp_loop_rounds 1 ?_
  rw [rounds_succ]
  go_wp2_with fail
  go_ret
  exact ⟨rfl, (Below.refl _ _).alloc (Nat.le_refl _) _⟩
/-- ListOk and copyList of a row of the call's own. -/
theorem listOk_own (L : List Ent) (base : Nat) (v : Value) (w : World) (hm : L.length ≤ 4194304) (hsm : SmallL L) (h : OwnN w base v L) :
    Calls Try.prog 35 #[v] w fun e w' => e = .returned (.bool (listOkv L)) ∧ Below w.heap.size w w' := by
  rcases h.cases with ⟨rfl, rfl⟩ | h
  · exact listOk_nil w
  · obtain ⟨g, cap, rfl, hr, hg, _, _, _⟩ := h.open
    exact listOk_impl L L.length g cap w rfl hm hg hsm hr
theorem copy_own (L : List Ent) (base : Nat) (v : Value) (w : World) (hm : L.length ≤ 4194304) (hsm : SmallL L) (h : OwnN w base v L) :
    Calls Try.prog 40 #[v] w fun e w' => ∃ v, e = .returned v ∧ OwnE w' w.heap.size v L ∧ Below w.heap.size w w' := by
  rcases h.cases with ⟨rfl, rfl⟩ | h
  · exact copy_nil w
  · obtain ⟨g, cap, rfl, hr, hg, _, _, _⟩ := h.open
    exact copy_impl L L.length g cap w rfl hm hg hsm hr
set_option maxHeartbeats 1600000 in
theorem merge_impl (L M : List Ent) (n g ca n2 g2 cb : Nat) (w : World) (hn : n = L.length) (hn2 : n2 = M.length) (hm : n ≤ 1048576) (hm2 : n2 ≤ 1048576) (hg : g < w.heap.size) (hg2 : g2 < w.heap.size) (hs : SmallL L) (hs2 : SmallL M) (h1 : RowE w g L) (h2 : RowE w g2 M) :
    Calls Try.prog 29 #[.slice (some ⟨g, 0, none⟩) n ca, .slice (some ⟨g2, 0, none⟩) n2 cb] w fun e w' => ∃ v, e = .returned v ∧ OwnE w' w.heap.size v (mergev L M) ∧ Below w.heap.size w w' := by
  obtain ⟨i0, hi0, hz0, hz1, hz2⟩ := info_parts Try.infoE
  have H1 := Lib.hid h1
  have H2 := Lib.hid h2
  have HG : Hid (∀ i, i < n → ∃ e, L[i]? = some e ∧ esz e ≤ 4194304) := Lib.hid (fun i hi => by obtain ⟨e, he⟩ := getE' (L := L) (i := i) (by omega); exact ⟨e, he, hs.get he⟩)
  have HLn : Hid (∀ i, (mergeTo L M i).length ≤ i) := Lib.hid (mergeTo_len L M)
  have HSm : SmallL (mergeTo L M n ++ M) := fun e he => by
    rcases List.mem_append.1 he with he | he
    · exact hs e (mergeTo_mem (by omega) e he)
    · exact hs2 e he
  have HO := Lib.hid (fun base v w h => listOk_own (mergeTo L M n ++ M) base v w (by have := mergeTo_len L M n; simp; omega) HSm h)
  have HC := Lib.hid (fun base v w h => copy_own (mergeTo L M n ++ M) base v w (by have := mergeTo_len L M n; simp; omega) HSm h)
  have HC1 := Lib.hid (fun w hg h => copy_impl L n g ca w hn (by omega) hg hs h)
  have HP := Lib.hid (pathsOf_impl M n2 g2 cb w hn2 (by omega) hg2 hs2 h2)
  have HT := Lib.hid (find_paths M)
  have HD : Hid (mergev L M = if listOkv (mergeTo L M n ++ M) = true then mergeTo L M n ++ M else L) := Lib.hid (by rw [hn]; rfl)
  have HL2 : Hid ((entVals M).length = n2 * 10) := Lib.hid (by rw [entVals_len, hn2])
  have HN2 := Lib.hid hn2
  generalize mergev L M = r at HD
  clear h1 h2 hn hn2 hs hs2 HSm
  go_enter Try.func29, Try.ntmps29
  go_wp2_with fail
  refine HP.out.mono ?_
  rintro e w1 ⟨rfl, hset, hb⟩
  have S1 := Lib.hid hset
  have B1 := Lib.hid hb
  have z1 := hset.lt
  clear hset hb HP
  go_wp2_with fail
  go_loopw [6, 8, 13] (fun v _ u wr => ∃ (i : Nat), u = .int .i64 i ∧ i ≤ n ∧ OwnN wr (w.heap.size + 1) v (mergeTo L M i) ∧ SetSAt wr w.heap.size n2 (inPaths M) ∧ w.heap.size < wr.heap.size ∧ Below w.heap.size w wr) (fun _ _ u _ => n - (intOf u).toNat)
  case atStart => exact ⟨0, rfl, Nat.zero_le _, OwnN.nil _ _, S1.out, z1, B1.out⟩
  case round =>
    obtain ⟨i, rfl, hi, ho, hset, zr, hb⟩ := hrel
    have O := Lib.hid ho
    have St := Lib.hid hset
    have B := Lib.hid hb
    clear ho hset hb S1 B1
    have hD := HLn.out i
    by_cases hlt : i < n
    · have hlt2 : (i : Int) < (n : Int) := by omega
      obtain ⟨e, he, hz⟩ := HG.out i hlt
      have Hit := Lib.hid (fun hf => mergeTo_hit (M := M) he hf)
      have Miss := Lib.hid (fun hf => mergeTo_miss (M := M) he hf)
      have R := Lib.hid (H1.out.below B.out hg)
      obtain ⟨c0, c1, c2, c3, c4, c5, c6, c7, c8, c9⟩ := R.out.ten he
      have kp : e.path.size ≤ maxLen := by have := (small_parts hz).1; simp only [maxLen]; omega
      have HTi := Lib.hid (HT.out e.path)
      clear he hz R
      obtain ⟨k, p, l, m, u, g0, t, us, gr, b⟩ := e
      dsimp only at Hit Miss kp HTi
      have HH := Lib.hid (fun w h => has_impl w.heap.size n2 (inPaths M) p w kp h)
      have HH2 := Lib.hid (fun w' h => has_impl w.heap.size n2 (inPaths M) p w' kp h)
      clear HH
      generalize inPaths M p = tp at HH2 HTi
      have hsz := B.out.size
      go_wp2_with fail
      refine (HH2.out _ (St.out.below ((Below.refl _ wr).alloc (Nat.le_refl _) _))).mono ?_
      rintro e1 w1 ⟨rfl, hb⟩
      obtain ⟨k1, bb, z2⟩ := one_new (e1 := ⟨k, p, l, m, u, g0, t, us, gr, b⟩) hb
      have E1 := Lib.hid k1
      have Bn := Lib.hid (btE B.out bb)
      have Sn := Lib.hid (St.out.below bb)
      have On := Lib.hid (own_belowE O.out bb)
      clear hb k1 bb c0 c1 c2 c3 c4 c5 c6 c7 c8 c9 B St O HH2
      obtain ⟨c0, c1, c2, c3, c4, c5, c6, c7, c8, c9⟩ := E1.out.zero
      have hsz1 := Bn.out.size
      cases tp with
      | false =>
        have HN := Lib.hid (Hit.out (HTi.out.2 rfl))
        clear Hit Miss HTi
        generalize mergeTo L M i = D at On HN hD
        go_wp2_with (at_builtin; refine wpList_append_own _ rfl _ _ 24 rfl (w.heap.size + 1) 51 i0 (.agg #[.int .i64 0, .string ⟨#[]⟩, .string ⟨#[]⟩, .int .i64 0, .int .i64 0, .int .i64 0, .int .i64 0, .string ⟨#[]⟩, .string ⟨#[]⟩, .string ⟨#[]⟩]) 10 120 Try.underlying24 hi0 hz0 hz1 hz2 rfl (by decide) _ _ _ rfl (World.ownsRow.alloc On.out _) ⟨w1.heap.size, 0, none⟩ 1 1 (entVals [⟨k, p, l, m, u, g0, t, us, gr, b⟩]) rfl (entVals_len _) ?c1b ?c2b ?c3b ?c4b ?c5b ?_)
        case c1b => first | exact ent_new _ _ _ | exact RowE.news0 (ent_new _ _ _)
        case c2b => exact entVals_onecell _
        case c3b => (try simp only [List.length_nil]); simp only [maxLen]; omega
        case c4b => (try simp only [List.length_nil]); omega
        case c5b => simp; omega
        · intro v' w2 hown' hgrow hnil
          have hO : OwnN w2 (w.heap.size + 1) v' (D ++ [⟨k, p, l, m, u, g0, t, us, gr, b⟩]) := ownN_app hown' rfl rfl
          rw [← HN.out] at hO
          have hBl : Below w.heap.size w w2 := (Bn.out.alloc hsz1 _).grown hgrow (by simp; omega) (fun b hb => by have := OwnN.block On.out b hb; omega)
          have hSt : SetSAt w2 w.heap.size n2 (inPaths M) := (Sn.out.below ((Below.refl _ w1).alloc (Nat.le_refl _) _)).kept hgrow (OwnN.ne On.out (by omega))
          have z3 := hSt.lt
          clear hown' hgrow hnil c0 c1 c2 c3 c4 c5 c6 c7 c8 c9
          have HO2 := Lib.hid hO
          have HB2 := Lib.hid hBl
          have HS2 := Lib.hid hSt
          clear hO hBl hSt
          go_wp2_with fail
          go_roundw
          case rel => exact ⟨i + 1, by go_num, by omega, HO2.out, HS2.out, z3, HB2.out⟩
          case measure => simp [intOf]; omega
      | true =>
        have HN := Lib.hid (Miss.out (by have h : ¬ findv M p < 0 := (fun q => by have := HTi.out.1 q; cases this); omega))
        clear Hit Miss HTi
        have HO2 : Hid (OwnN w1 (w.heap.size + 1) _ (mergeTo L M (i + 1))) := Lib.hid (by rw [HN.out]; exact On.out)
        have z3 := Sn.out.lt
        go_wp2_with fail
        go_roundw
        case rel => exact ⟨i + 1, by go_num, by omega, HO2.out, Sn.out, z3, Bn.out⟩
        case measure => simp [intOf]; omega
    · obtain rfl : i = n := by omega
      have hlt2 : ¬ (i : Int) < (i : Int) := by omega
      have R2 := Lib.hid (H2.out.below B.out hg2)
      have hsz := B.out.size
      have zg2 : g2 < wr.heap.size := by omega
      clear HG HLn St
      generalize mergeTo L M i = D at O HO HC HD hD
      go_wp2_with (at_builtin; refine wpList_append_own _ rfl _ _ 24 rfl (w.heap.size + 1) 51 i0 (.agg #[.int .i64 0, .string ⟨#[]⟩, .string ⟨#[]⟩, .int .i64 0, .int .i64 0, .int .i64 0, .int .i64 0, .string ⟨#[]⟩, .string ⟨#[]⟩, .string ⟨#[]⟩]) 10 120 Try.underlying24 hi0 hz0 hz1 hz2 rfl (by decide) _ _ _ rfl O.out ⟨g2, 0, none⟩ n2 cb (entVals M) rfl HL2.out ?c1c ?c2c ?c3c ?c4c ?c5c ?_)
      case c1c => first | exact R2.out | exact RowE.news0 (R2.out)
      case c2c => exact entVals_onecell _
      case c3c => (try simp only [List.length_nil]); simp only [maxLen]; omega
      case c4c => (try simp only [List.length_nil]); omega
      case c5c => omega
      · intro v' w2 hown' hgrow hnil
        have hO : OwnN w2 (w.heap.size + 1) v' (D ++ M) := ownN_app hown' rfl HN2.out
        have hBl : Below w.heap.size w w2 := B.out.grown hgrow (by omega) (fun b hb => by have := OwnN.block O.out b hb; omega)
        generalize D ++ M = Z at HO HC HD hO
        have O2 := Lib.hid hO
        have B2 := Lib.hid hBl
        clear hown' hgrow hnil hO hBl R2 B O
        go_wp2_with fail
        refine (HO.out _ _ _ O2.out).mono ?_
        rintro e1 w3 ⟨rfl, hb⟩
        have O3 : Hid (OwnN w3 (w.heap.size + 1) v' Z) := Lib.hid (own_belowE O2.out hb)
        have B3 := Lib.hid (btE B2.out hb)
        have R4 := Lib.hid (H1.out.below B3.out hg)
        have hsz3 := B3.out.size
        clear hb O2 B2
        generalize listOkv Z = ok at HD ⊢
        cases ok with
        | true =>
          have HX : Hid (r = Z) := Lib.hid (by rw [HD.out]; simp)
          go_wp2_with fail
          refine (HC.out _ _ _ O3.out).mono ?_
          rintro e2 w4 ⟨v, rfl, ho, hb⟩
          have O4 := Lib.hid (ho.weak hsz3)
          have B4 := Lib.hid (btE B3.out hb)
          clear ho hb
          go_wp2_with fail
          go_ret
          rw [HX.out]
          exact ⟨_, rfl, O4.out, B4.out⟩
        | false =>
          have HX : Hid (r = L) := Lib.hid (by rw [HD.out]; simp)
          have zg3 : g < w3.heap.size := by omega
          go_wp2_with fail
          refine (HC1.out _ zg3 R4.out).mono ?_
          rintro e2 w4 ⟨v, rfl, ho, hb⟩
          have O4 := Lib.hid (ho.weak hsz3)
          have B4 := Lib.hid (btE B3.out hb)
          clear ho hb
          go_wp2_with fail
          go_ret
          rw [HX.out]
          exact ⟨_, rfl, O4.out, B4.out⟩
end Go.Proofs.Ytlbkojiengofeab
