/- Contract of spec.Merge. -/
import Derived.Test.YtlbkojiengofeabListOk
namespace Go.Proofs.Ytlbkojiengofeab
open Go.ChangeShapes Go.WideShapes Go.ChangeAt Go.RowKit Go.Deep

theorem OwnE.open {w : World} {base : Nat} {v : Value} {L : List Ent} (h : OwnE w base v L) : ∃ g cap, v = .slice (some ⟨g, 0, none⟩) L.length cap ∧ RowE w g L ∧ g < w.heap.size ∧ base ≤ g ∧ L.length ≤ cap ∧ w.ownsRow base 51 10 (.slice (some ⟨g, 0, none⟩) L.length cap) L.length (entVals L) := by
  obtain ⟨ho, g, cap, rfl⟩ := h
  have hr := OwnE.row (n := L.length) ⟨ho, g, cap, rfl⟩
  refine ⟨g, cap, rfl, hr.1, hr.2.1, hr.2.2.1, ?_, ho⟩
  rcases ho.2 with ⟨h', _⟩ | ⟨g', cap', cur, h', _, _, hnc, _⟩
  · simp at h'
  · simp at h'
    obtain ⟨_, rfl⟩ := h'
    exact hnc
/-- The entries of L, as far as i, whose path is none of M's. -/
def mergeTo (L M : List Ent) : Nat → List Ent
  | 0 => []
  | i + 1 => if findv M (L.getD i entD).path < 0 then mergeTo L M i ++ [L.getD i entD] else mergeTo L M i
def mergev (L M : List Ent) : List Ent := if listOkv (mergeTo L M L.length ++ M) = true then mergeTo L M L.length ++ M else L
theorem mergeTo_len (L M : List Ent) (i : Nat) : (mergeTo L M i).length ≤ i := by
  induction i with
  | zero => simp [mergeTo]
  | succ i ih =>
    rw [mergeTo]
    split
    · simp; omega
    · omega
theorem mergeTo_hit {L M : List Ent} {i : Nat} {e : Ent} (h : L[i]? = some e) (hf : findv M e.path < 0) : mergeTo L M (i + 1) = mergeTo L M i ++ [e] := by
  rw [mergeTo]; simp [List.getD, h, hf]
theorem mergeTo_miss {L M : List Ent} {i : Nat} {e : Ent} (h : L[i]? = some e) (hf : ¬ findv M e.path < 0) : mergeTo L M (i + 1) = mergeTo L M i := by
  rw [mergeTo]; simp [List.getD, h, hf]
theorem mergeTo_mem {L M : List Ent} {i : Nat} (hi : i ≤ L.length) : ∀ e ∈ mergeTo L M i, e ∈ L := by
  induction i with
  | zero => simp [mergeTo]
  | succ i ih =>
    rw [mergeTo]
    have hx : L.getD i entD ∈ L := by
      rw [List.getD, List.getElem?_eq_getElem (show i < L.length by omega)]
      exact List.getElem_mem _
    split
    · intro e he
      rcases List.mem_append.1 he with h | h
      · exact ih (by omega) e h
      · simp at h; subst h; exact hx
    · exact ih (by omega)
theorem own_belowE {w w' : World} {base : Nat} {ty : TypeId} {v : Value} {n : Nat} {xs : List Value} (h : w.ownsRow base ty 10 v n xs) (hb : Below w.heap.size w w') : w'.ownsRow base ty 10 v n xs :=
  World.ownsRow.kept h (row := none) ⟨hb.os, hb.tape, hb.output, hb.size, fun k hk _ => hb.block k hk⟩ (by cases hv : v.ownBlock <;> simp)
set_option maxRecDepth 8000 in
set_option maxHeartbeats 400000 in
theorem merge_spec (L M : List Ent) (n g ca n2 g2 cb : Nat) (w : World) (hn : n = L.length) (hn2 : n2 = M.length) (hm : n ≤ 1048576) (hm2 : n2 ≤ 1048576) (hg : g < w.heap.size) (hg2 : g2 < w.heap.size) (hs : SmallL L) (hs2 : SmallL M) (h1 : RowE w g L) (h2 : RowE w g2 M) :
    Calls Try.prog 33 #[.slice (some ⟨g, 0, none⟩) n ca, .slice (some ⟨g2, 0, none⟩) n2 cb] w fun e w' => ∃ v, e = .returned v ∧ OwnE w' w.heap.size v (mergev L M) ∧ Below w.heap.size w w' := by
  obtain ⟨i0, hi0, hz0, hz1, hz2⟩ := info_parts Try.infoE
  have H1 := Lib.hid h1
  have H2 := Lib.hid h2
  have HG : Hid (∀ i, i < n → ∃ e, L[i]? = some e) := Lib.hid (fun i hi => getE' (by omega))
  have HF := Lib.hid (fun p w (hg : g2 < w.heap.size) (h : RowE w g2 M) => find_spec M p n2 g2 cb w hn2 (by omega) hg h)
  have HLn : Hid (∀ i, (mergeTo L M i).length ≤ i) := Lib.hid (mergeTo_len L M)
  have HO : Hid (∀ (g cap : Nat) (w : World), (mergeTo L M n ++ M).length ≤ cap → g < w.heap.size → RowE w g (mergeTo L M n ++ M) → Calls Try.prog 34 #[.slice (some ⟨g, 0, none⟩) (mergeTo L M n ++ M).length cap] w fun e w' => e = .returned (.bool (listOkv (mergeTo L M n ++ M))) ∧ Below w.heap.size w w') := Lib.hid (fun g cap w hc hg h => listOk_spec _ _ g cap w rfl (by have := mergeTo_len L M n; simp; omega) hc hg (fun e he => by
    rcases List.mem_append.1 he with he | he
    · exact hs e (mergeTo_mem (by omega) e he)
    · exact hs2 e he) h)
  have HD : Hid (mergev L M = if listOkv (mergeTo L M n ++ M) = true then mergeTo L M n ++ M else L) := Lib.hid (by rw [hn]; rfl)
  have hl1 : (entVals L).length = n * 10 := by rw [entVals_len, hn]
  have hl2 : (entVals M).length = n2 * 10 := by rw [entVals_len, hn2]
  have HL1 := Lib.hid hl1
  have HL2 := Lib.hid hl2
  have HN1 := Lib.hid hn
  have HN2 := Lib.hid hn2
  generalize mergev L M = r at HD
  clear h1 h2 hn hn2 hs hs2 hl1 hl2
  go_enter Try.func33, Try.ntmps33
  go_wp2_with fail
  go_loopw [5, 6] (fun v u wr => ∃ (i : Nat), u = .int .i64 i ∧ i ≤ n ∧ OwnE wr w.heap.size v (mergeTo L M i) ∧ Below w.heap.size w wr) (fun _ u _ => n - (intOf u).toNat)
  case atStart => exact ⟨0, rfl, Nat.zero_le _, OwnE.lit (Nat.le_refl _), (Below.refl _ _).alloc (Nat.le_refl _) _⟩
  case round =>
    obtain ⟨i, rfl, hi, ho, hb⟩ := hrel
    have O := Lib.hid ho
    have B := Lib.hid hb
    clear ho hb
    have hD := HLn.out i
    by_cases hlt : i < n
    · have hlt2 : (i : Int) < (n : Int) := by omega
      obtain ⟨e, he⟩ := HG.out i hlt
      have hit := fun hf => mergeTo_hit (M := M) he hf
      have miss := fun hf => mergeTo_miss (M := M) he hf
      have R := Lib.hid (H1.out.below B.out hg)
      have R2 := Lib.hid (H2.out.below B.out hg2)
      have hsz := B.out.size
      have zg : g < wr.heap.size := by omega
      have zg2 : g2 < wr.heap.size := by omega
      obtain ⟨c0, c1, c2, c3, c4, c5, c6, c7, c8, c9⟩ := R.out.ten he
      have HFi := Lib.hid (HF.out e.path)
      have Hit := Lib.hid hit
      have Miss := Lib.hid miss
      have HE := Lib.hid he
      clear he hit miss c0 c2 c3 c4 c5 c6 c7 c8 c9
      generalize findv M e.path = f at HFi Hit Miss
      generalize e.path = x at c1 HFi
      obtain ⟨gd, cd, rfl, _, _, _, _, ho⟩ := O.out.open
      have O1 := Lib.hid ho
      clear ho
      go_wp2_with fail
      refine (HFi.out _ zg2 R2.out).mono ?_
      rintro e1 w1 ⟨rfl, hb⟩
      have R1 := Lib.hid (R.out.below hb zg)
      have B1 := Lib.hid (btE B.out hb)
      have O2 := Lib.hid (own_belowE O1.out hb)
      have hsz1 := B1.out.size
      clear hb R R2 B O1 HFi c1 O
      by_cases hf : f < 0
      · have HN := Lib.hid (Hit.out hf)
        obtain ⟨c0, c1, c2, c3, c4, c5, c6, c7, c8, c9⟩ := R1.out.ten HE.out
        clear Hit Miss HE R1
        generalize mergeTo L M i = D at O2 HN hD
        go_wp2_with (at_builtin; refine wpList_append_own _ rfl _ _ 24 rfl w.heap.size 51 i0 (.agg #[.int .i64 0, .string ⟨#[]⟩, .string ⟨#[]⟩, .int .i64 0, .int .i64 0, .int .i64 0, .int .i64 0, .string ⟨#[]⟩, .string ⟨#[]⟩, .string ⟨#[]⟩]) 10 120 Try.underlying24 hi0 hz0 hz1 hz2 rfl (by decide) _ _ _ rfl (World.ownsRow.alloc O2.out _) ⟨w1.heap.size, 0, none⟩ 1 1 (entVals [e]) rfl (entVals_len _) ?c1b ?c2b ?c3b ?c4b ?c5b ?_)
        case c1b => first | exact ent_new _ _ _ | exact RowE.news0 (ent_new _ _ _)
        case c2b => exact entVals_onecell _
        case c3b => (try simp only [List.length_nil]); simp only [maxLen]; omega
        case c4b => (try simp only [List.length_nil]); omega
        case c5b => simp; omega
        · intro v' w2 hown' hgrow hnil
          have hO : OwnE w2 w.heap.size v' (D ++ [e]) := ownE_app hown' rfl rfl hnil
          rw [← HN.out] at hO
          have hBl : Below w.heap.size w w2 := (B1.out.alloc hsz1 _).grown hgrow (by simp; omega) (fun b hb => (World.ownsRow.lt O2.out b hb).1)
          clear hown' hgrow hnil c0 c1 c2 c3 c4 c5 c6 c7 c8 c9
          have HO2 := Lib.hid hO
          have HB2 := Lib.hid hBl
          clear hO hBl
          go_wp2_with fail
          go_roundw
          case rel => exact ⟨i + 1, by go_num, by omega, HO2.out, HB2.out⟩
          case measure => simp [intOf]; omega
      · have HN := Lib.hid (Miss.out (by omega))
        clear Hit Miss HE R1
        have HO2 : Hid (OwnE w1 w.heap.size (.slice (some ⟨gd, 0, none⟩) (mergeTo L M i).length cd) (mergeTo L M (i + 1))) := Lib.hid (by rw [HN.out]; exact ⟨O2.out, _, _, rfl⟩)
        go_wp2_with fail
        go_roundw
        case rel => exact ⟨i + 1, by go_num, by omega, HO2.out, B1.out⟩
        case measure => simp [intOf]; omega
    · obtain rfl : i = n := by omega
      have hlt2 : ¬ (i : Int) < (i : Int) := by omega
      obtain ⟨gd, cd, rfl, _, _, _, _, ho⟩ := O.out.open
      have O1 := Lib.hid ho
      have R1 := Lib.hid (H1.out.below B.out hg)
      have R2 := Lib.hid (H2.out.below B.out hg2)
      have hsz := B.out.size
      have zg : g < wr.heap.size := by omega
      have zg2 : g2 < wr.heap.size := by omega
      clear ho O HG HF HLn
      generalize mergeTo L M i = D at O1 HO HD hD
      go_wp2_with (at_builtin; refine wpList_append_own _ rfl _ _ 24 rfl w.heap.size 51 i0 (.agg #[.int .i64 0, .string ⟨#[]⟩, .string ⟨#[]⟩, .int .i64 0, .int .i64 0, .int .i64 0, .int .i64 0, .string ⟨#[]⟩, .string ⟨#[]⟩, .string ⟨#[]⟩]) 10 120 Try.underlying24 hi0 hz0 hz1 hz2 rfl (by decide) _ _ _ rfl O1.out ⟨g2, 0, none⟩ n2 cb (entVals M) rfl HL2.out ?c1c ?c2c ?c3c ?c4c ?c5c ?_)
      case c1c => first | exact R2.out | exact RowE.news0 (R2.out)
      case c2c => exact entVals_onecell _
      case c3c => (try simp only [List.length_nil]); simp only [maxLen]; omega
      case c4c => (try simp only [List.length_nil]); omega
      · intro v' w2 hown' hgrow hnil
        have hO : OwnE w2 w.heap.size v' (D ++ M) := ownE_app hown' rfl HN2.out hnil
        have hBl : Below w.heap.size w w2 := B.out.grown hgrow (by omega) (fun b hb => (World.ownsRow.lt O1.out b hb).1)
        generalize D ++ M = Z at HO HD hO
        obtain ⟨gm, cm, rfl, hr, hgm, hbm, hcm, _⟩ := hO.open
        have O2 := Lib.hid hO
        have B2 := Lib.hid hBl
        have RM := Lib.hid hr
        have R3 := Lib.hid (H1.out.below hBl hg)
        clear hown' hgrow hnil hO hBl hr R2 B O1 R1
        go_wp2_with fail
        refine (HO.out gm cm _ hcm hgm RM.out).mono ?_
        rintro e1 w3 ⟨rfl, hb⟩
        have O3 := Lib.hid (O2.out.keep hb)
        have B3 := Lib.hid (btE B2.out hb)
        have R4 := Lib.hid (H1.out.below B3.out hg)
        have hsz3 := B3.out.size
        clear hb O2 B2 R3 RM
        generalize listOkv Z = ok at HD ⊢
        cases ok with
        | true =>
          have HX : Hid (r = Z) := Lib.hid (by rw [HD.out]; simp)
          go_wp2_with fail
          go_ret
          rw [HX.out]
          exact ⟨_, rfl, O3.out, B3.out⟩
        | false =>
          have HX : Hid (r = L) := Lib.hid (by rw [HD.out]; simp)
          have O4 : Hid (OwnE (w3.alloc (.cells #[] 51)) w.heap.size (.slice (some ⟨w3.heap.size, 0, none⟩) 0 0) []) := Lib.hid (OwnE.lit hsz3)
          have R5 : Hid (RowE (w3.alloc (.cells #[] 51)) g L) := Lib.hid (R4.out.below ((Below.refl _ _).alloc (Nat.le_refl _) _) (by omega))
          go_wp2_with (at_builtin; refine wpList_append_own _ rfl _ _ 24 rfl w.heap.size 51 i0 (.agg #[.int .i64 0, .string ⟨#[]⟩, .string ⟨#[]⟩, .int .i64 0, .int .i64 0, .int .i64 0, .int .i64 0, .string ⟨#[]⟩, .string ⟨#[]⟩, .string ⟨#[]⟩]) 10 120 Try.underlying24 hi0 hz0 hz1 hz2 rfl (by decide) _ _ _ rfl O4.out.1 ⟨g, 0, none⟩ i ca (entVals L) rfl HL1.out ?c1d ?c2d ?c3d ?c4d ?c5d ?_)
          case c1d => first | exact R5.out | exact RowE.news0 (R5.out)
          case c2d => exact entVals_onecell _
          case c3d => (try simp only [List.length_nil]); simp only [maxLen]; omega
          case c4d => (try simp only [List.length_nil]); omega
          case c5d => simp; omega
          · intro v' w4 hown' hgrow hnil
            have hO : OwnE w4 w.heap.size v' ([] ++ L) := ownE_app (n := 0) (m := i) (by rw [Nat.zero_add]; exact hown') rfl HN1.out hnil
            have hBl : Below w.heap.size w w4 := (B3.out.alloc hsz3 _).grown hgrow (by simp; omega) (fun b hb => (World.ownsRow.lt O4.out.1 b hb).1)
            rw [List.nil_append, ← HX.out] at hO
            clear hown' hgrow hnil
            have O6 := Lib.hid hO
            have B6 := Lib.hid hBl
            clear hO hBl
            go_wp2_with fail
            go_ret
            exact ⟨_, rfl, O6.out, B6.out⟩
end Go.Proofs.Ytlbkojiengofeab
