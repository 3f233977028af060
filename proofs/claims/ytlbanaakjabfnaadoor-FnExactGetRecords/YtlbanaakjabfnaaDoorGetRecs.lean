/- Contracts of spec.GetRecords and impl.GetRecords. -/
import Derived.Test.YtlbanaakjabfnaaDoorGetRecS
import Derived.Laws.MakeOwn
namespace Go.Proofs.YtlbanaakjabfnaaDoor
open Go.ChangeShapes Go.WideShapes Go.ChangeAt Go.RowKit Go.Deep

theorem recN_bd {s : ByteArray} {at' : Nat} (h : 0 ≤ recN s at') : at' + 1 ≤ recN s at' ∧ recN s at' ≤ s.size ∧ recOkv (recK s at') (recV s at') = true := by
  have hi : recIn s at' = true := by
    cases hi : recIn s at' with
    | true => rfl
    | false => rw [(rec_no hi).2.2] at h; omega
  have h2 := hi
  unfold recIn at h2
  simp only [Bool.and_eq_true, decide_eq_true_eq, Int.toNat_natCast] at h2
  obtain ⟨⟨_, hle⟩, hh⟩ := h2
  obtain ⟨ho, u, hu⟩ := (recHit_iff _).1 hh
  have e := congrArg List.length hu
  rw [ext_tail] at e
  simp only [List.length_append, List.length_drop] at e
  have e1 : s.data.toList.length = s.size := Array.length_toList
  have e2 : (recText (keyOf (s.extract at' s.size)) (valOf (s.extract at' s.size))).data.toList.length = (recText (keyOf (s.extract at' s.size)) (valOf (s.extract at' s.size))).size := Array.length_toList
  have h3 := putRec_size ho
  have h4 := recLen_bd ((keyOf (s.extract at' s.size)).size + (valOf (s.extract at' s.size)).size + 3)
  rw [putRecv, if_pos ho] at h3
  have hK : recK s at' = keyOf (s.extract at' s.size) := by rw [recK, if_pos hi, Int.toNat_natCast]
  have hV : recV s at' = valOf (s.extract at' s.size) := by rw [recV, if_pos hi, Int.toNat_natCast]
  have hN : recN s at' = at' + (recText (keyOf (s.extract at' s.size)) (valOf (s.extract at' s.size))).size := by rw [recN, if_pos hi, Int.toNat_natCast]
  refine ⟨by omega, by omega, ?_⟩
  rw [hK, hV]; exact ho
/-- The records from a place on, behind those of L; none where one cannot be read or there are too many. -/
def recsGo (s : ByteArray) (p : Nat) (L : List Rec) : Option (List Rec) :=
  if h : p < s.size then
    if recN s p < 0 ∨ 20 ≤ L.length then none
    else if h2 : p < (recN s p).toNat then recsGo s (recN s p).toNat (L ++ [⟨recK s p, recV s p⟩]) else none
  else some L
termination_by s.size - p
def recsv (s : ByteArray) : Option (List Rec) := recsGo s 0 []
theorem recsGo_end {s : ByteArray} {p : Nat} {L : List Rec} (h : ¬ p < s.size) : recsGo s p L = some L := by rw [recsGo, dif_neg h]
theorem recsGo_bad {s : ByteArray} {p : Nat} {L : List Rec} (h : p < s.size) (hb : recN s p < 0 ∨ 20 ≤ L.length) : recsGo s p L = none := by rw [recsGo, dif_pos h, if_pos hb]
theorem recsGo_step {s : ByteArray} {p n : Nat} {L : List Rec} (h : p < s.size) (hn : recN s p = n) (hl : ¬ 20 ≤ L.length) : recsGo s p L = recsGo s n (L ++ [⟨recK s p, recV s p⟩]) := by
  have hb := recN_bd (s := s) (at' := p) (by omega)
  rw [recsGo, dif_pos h, if_neg (by omega), dif_pos (by omega), hn, Int.toNat_natCast]
theorem recsGo_ok {s : ByteArray} {p : Nat} {L : List Rec} (hL : L.length ≤ 20 ∧ ∀ r ∈ L, recOkv r.key r.value = true) : ((recsGo s p L).getD []).length ≤ 20 ∧ ∀ r ∈ (recsGo s p L).getD [], recOkv r.key r.value = true := by
  induction h : s.size - p using Nat.strongRecOn generalizing p L with
  | ind m ih =>
    by_cases hp : p < s.size
    · by_cases hb : recN s p < 0 ∨ 20 ≤ L.length
      · rw [recsGo_bad hp hb]; simp
      · obtain ⟨n, hn⟩ := Int.eq_ofNat_of_zero_le (show 0 ≤ recN s p by omega)
        have hbd := recN_bd (s := s) (at' := p) (by omega)
        rw [recsGo_step hp hn (by omega)]
        refine ih (s.size - n) (by omega) ⟨by simp; omega, ?_⟩ rfl
        intro r hr
        rcases List.mem_append.1 hr with hr | hr
        · exact hL.2 r hr
        · simp only [List.mem_singleton] at hr
          subst hr
          exact hbd.2.2
    · rw [recsGo_end hp]; exact hL
theorem recsv_ok (s : ByteArray) : ((recsv s).getD []).length ≤ 20 ∧ ∀ r ∈ (recsv s).getD [], recOkv r.key r.value = true := recsGo_ok ⟨by simp, by simp⟩

theorem litR2 {w : World} {base : Nat} (x : Obj) (hb : base ≤ w.heap.size) : OwnR ((w.alloc x).alloc (.cells #[] 26)) base (.slice (some ⟨w.heap.size + 1, 0, none⟩) 0 0) [] := by
  have := OwnR.lit (w := w.alloc x) (base := base) (by simp; omega)
  simpa using this
set_option maxHeartbeats 3200000 in
theorem getRecords_spec (s : ByteArray) (w : World) (hs : s.size ≤ 1048576) :
    Calls Tryd.prog 19 #[.string s] w fun e w' => (∃ v, e = .returned (.tuple #[v, .bool (recsv s).isSome]) ∧ OwnR w' w.heap.size v ((recsv s).getD [])) ∧ Below w.heap.size w w' := by
  obtain ⟨i0, hi0, hz0, hz1, hz2⟩ := info_parts Tryd.infoR
  have HS : Hid (recsv s = recsGo s 0 []) := Lib.hid rfl
  have HB : Hid (∀ p L, p < s.size → (recN s p < 0 ∨ 20 ≤ L.length) → recsGo s p L = none) := Lib.hid (fun p L h hb => recsGo_bad h hb)
  have HP : Hid (∀ (p n : Nat) L, p < s.size → recN s p = n → ¬ 20 ≤ L.length → recsGo s p L = recsGo s n (L ++ [⟨recK s p, recV s p⟩])) := Lib.hid (fun p n L h hn hl => recsGo_step h hn hl)
  have HN := Lib.hid (fun p => recN_bd (s := s) (at' := p))
  have HG := Lib.hid (fun (p : Nat) w => getRecord_spec s (p : Int) w hs)

  generalize recsv s = r at HS
  go_enter Tryd.func19, Tryd.ntmps19
  go_wp2_with fail
  go_loopw [4, 5] (fun v u wr => ∃ (p : Nat) (L : List Rec), u = .int .i64 p ∧ p ≤ s.size ∧ L.length ≤ 20 ∧ r = recsGo s p L ∧ OwnR wr w.heap.size v L ∧ Below w.heap.size w wr) (fun _ u _ => s.size - (intOf u).toNat)
  case atStart => exact ⟨0, [], rfl, Nat.zero_le _, by simp, HS.out, OwnR.lit (Nat.le_refl _), (Below.refl _ _).alloc (Nat.le_refl _) _⟩
  case round =>
    obtain ⟨p, L, rfl, hp, hl, hr, ho, hb⟩ := hrel
    have HR := Lib.hid hr
    have B := Lib.hid hb
    obtain ⟨g, cap, rfl, _, _, _, ho⟩ := ho.open
    have O := Lib.hid ho
    clear hr hb ho HS
    by_cases hlt : p < s.size
    · have hlt2 : (p : Int) < (s.size : Int) := by omega
      have G := Lib.hid (fun w => HG.out p w)
      have B1 := Lib.hid (HB.out p L hlt)
      have P1 := Lib.hid (fun (n : Nat) => HP.out p n L hlt)
      have N1 := Lib.hid (HN.out p)
      clear HB HP
      generalize recN s p = rn at G B1 P1 N1
      generalize recK s p = rk at G P1 N1
      generalize recV s p = rv at G P1 N1
      go_wp2_with fail
      refine (G.out _).mono ?_
      rintro e w1 ⟨rfl, hb⟩
      replace O := Lib.hid (World.ownsRow.kept O.out (w' := w1) (row := none) ⟨hb.os, hb.tape, hb.output, hb.size, fun k hk _ => hb.block k hk⟩ (.inr (by simp [Value.ownBlock])))
      replace B := Lib.hid (btR B.out hb)
      clear hb
      by_cases hn : rn < 0
      · have HF : Hid (r = none) := Lib.hid (by rw [HR.out, B1.out (.inl hn)])
        go_wp2_with fail
        go_ret2
        exact ⟨⟨_, by rw [HF.out]; rfl, by rw [HF.out]; exact litR2 _ B.out.size⟩, (B.out.alloc B.out.size _).alloc (by have := B.out.size; simp; omega) _⟩
      obtain ⟨n, rfl⟩ := Int.eq_ofNat_of_zero_le (show 0 ≤ rn by omega)
      have hnb := N1.out (by omega)
      by_cases h20 : 20 ≤ L.length
      · have HF : Hid (r = none) := Lib.hid (by rw [HR.out, B1.out (.inr h20)])
        have q1 : (20 : Int) ≤ (L.length : Int) := by omega
        have q2 : ((L.length : Int) == 20) = true := by simp; omega
        go_wp2_with fail
        go_ret2
        exact ⟨⟨_, by rw [HF.out]; rfl, by rw [HF.out]; exact litR2 _ B.out.size⟩, (B.out.alloc B.out.size _).alloc (by have := B.out.size; simp; omega) _⟩
      have q1 : ¬ (20 : Int) ≤ (L.length : Int) := by omega
      have q2 : ((L.length : Int) == 20) = false := by simp; omega
      have HF : Hid (r = recsGo s n (L ++ [⟨rk, rv⟩])) := Lib.hid (by rw [HR.out, P1.out n rfl h20])
      have zB := B.out.size
      clear B1 P1 N1 HR
      go_wp2_with (at_builtin; refine wpList_append_own _ rfl _ _ 36 rfl w.heap.size 26 i0 (.agg #[.string ⟨#[]⟩, .string ⟨#[]⟩]) 2 32 Tryd.underlying36 hi0 hz0 hz1 hz2 rfl (by decide) _ L.length (valsR L) rfl ?c0b ⟨w1.heap.size + 1, 0, none⟩ 1 1 (valsR [⟨rk, rv⟩]) rfl (valsR_len _) ?c1b ?c2b ?c3b ?c4b ?c5b ?_)
      case c0b => exact World.ownsRow.alloc (World.ownsRow.alloc O.out _) _
      case c1b => have := newR (w1.alloc (.cells #[.string rk, .string rv] 26)) ⟨rk, rv⟩ 26; simpa [Rec.cells] using this
      case c2b => exact valsR_onecell _
      case c3b => (try simp only [List.length_nil]); simp only [maxLen]; omega
      case c4b => (try simp only [List.length_nil]); omega
      case c5b => simp; omega
      · intro v' w6 hown' hgrow hnil
        have hO : OwnR w6 w.heap.size v' (L ++ [⟨rk, rv⟩]) := own_appR hown' rfl rfl hnil
        have hBl : Below w.heap.size w w6 := ((B.out.alloc zB _).alloc (by simp; omega) _).grown hgrow (by simp; omega) (fun b hb => (World.ownsRow.lt O.out b hb).1)
        have HO2 := Lib.hid hO
        have HB2 := Lib.hid hBl
        clear hO hBl hown' hgrow hnil
        go_wp2_with fail
        go_roundw
        case rel => exact ⟨n, L ++ [⟨rk, rv⟩], rfl, by omega, by simp; omega, HF.out, HO2.out, HB2.out⟩
        case measure => simp [intOf]; omega
    · have hlt2 : ¬ (p : Int) < (s.size : Int) := by omega
      have HF : Hid (r = some L) := Lib.hid (by rw [HR.out, recsGo_end hlt])
      go_wp2_with fail
      go_ret2
      exact ⟨⟨_, by rw [HF.out]; rfl, by rw [HF.out]; exact ⟨O.out, g, cap, rfl⟩⟩, B.out⟩

set_option maxHeartbeats 3200000 in
theorem getRecords_impl (s : ByteArray) (w : World) (hs : s.size ≤ 1048576) (ht : Lib.TabIs Tryd.prog w "internal/strconv.uint64pow10" .u64 Lib.pow10Tab) :
    Calls Tryd.prog 20 #[.string s] w fun e w' => (∃ v, e = .returned (.tuple #[v, .bool (recsv s).isSome]) ∧ OwnR w' w.heap.size v ((recsv s).getD [])) ∧ Below w.heap.size w w' := by
  obtain ⟨i0, hi0, hz0, hz1, hz2⟩ := info_parts Tryd.infoR
  have HS : Hid (recsv s = recsGo s 0 []) := Lib.hid rfl
  have HB : Hid (∀ p L, p < s.size → (recN s p < 0 ∨ 20 ≤ L.length) → recsGo s p L = none) := Lib.hid (fun p L h hb => recsGo_bad h hb)
  have HP : Hid (∀ (p n : Nat) L, p < s.size → recN s p = n → ¬ 20 ≤ L.length → recsGo s p L = recsGo s n (L ++ [⟨recK s p, recV s p⟩])) := Lib.hid (fun p n L h hn hl => recsGo_step h hn hl)
  have HN := Lib.hid (fun p => recN_bd (s := s) (at' := p))
  have HG := Lib.hid (fun (p : Nat) w h => getRecord_impl s (p : Int) w hs h)
  have HT := Lib.hid ht
  generalize recsv s = r at HS
  go_enter Tryd.func20, Tryd.ntmps20
  go_wp2_with fail
  go_loopw [4, 5] (fun v u wr => ∃ (p : Nat) (L : List Rec), u = .int .i64 p ∧ p ≤ s.size ∧ L.length ≤ 20 ∧ r = recsGo s p L ∧ OwnR wr w.heap.size v L ∧ Below w.heap.size w wr) (fun _ u _ => s.size - (intOf u).toNat)
  case atStart => exact ⟨0, [], rfl, Nat.zero_le _, by simp, HS.out, OwnR.lit (Nat.le_refl _), (Below.refl _ _).alloc (Nat.le_refl _) _⟩
  case round =>
    obtain ⟨p, L, rfl, hp, hl, hr, ho, hb⟩ := hrel
    have HR := Lib.hid hr
    have B := Lib.hid hb
    obtain ⟨g, cap, rfl, _, _, _, ho⟩ := ho.open
    have O := Lib.hid ho
    clear hr hb ho HS
    by_cases hlt : p < s.size
    · have hlt2 : (p : Int) < (s.size : Int) := by omega
      have G := Lib.hid (fun w h => HG.out p w h)
      have B1 := Lib.hid (HB.out p L hlt)
      have P1 := Lib.hid (fun (n : Nat) => HP.out p n L hlt)
      have N1 := Lib.hid (HN.out p)
      clear HB HP
      generalize recN s p = rn at G B1 P1 N1
      generalize recK s p = rk at G P1 N1
      generalize recV s p = rv at G P1 N1
      go_wp2_with fail
      refine (G.out _ (Lib.tabBelow_of_tabIs HT.out _ B.out)).mono ?_
      rintro e w1 ⟨rfl, hb⟩
      replace O := Lib.hid (World.ownsRow.kept O.out (w' := w1) (row := none) ⟨hb.os, hb.tape, hb.output, hb.size, fun k hk _ => hb.block k hk⟩ (.inr (by simp [Value.ownBlock])))
      replace B := Lib.hid (btR B.out hb)
      clear hb
      by_cases hn : rn < 0
      · have HF : Hid (r = none) := Lib.hid (by rw [HR.out, B1.out (.inl hn)])
        go_wp2_with fail
        go_ret2
        exact ⟨⟨_, by rw [HF.out]; rfl, by rw [HF.out]; exact litR2 _ B.out.size⟩, (B.out.alloc B.out.size _).alloc (by have := B.out.size; simp; omega) _⟩
      obtain ⟨n, rfl⟩ := Int.eq_ofNat_of_zero_le (show 0 ≤ rn by omega)
      have hnb := N1.out (by omega)
      by_cases h20 : 20 ≤ L.length
      · have HF : Hid (r = none) := Lib.hid (by rw [HR.out, B1.out (.inr h20)])
        have q1 : (20 : Int) ≤ (L.length : Int) := by omega
        have q2 : ((L.length : Int) == 20) = true := by simp; omega
        go_wp2_with fail
        go_ret2
        exact ⟨⟨_, by rw [HF.out]; rfl, by rw [HF.out]; exact litR2 _ B.out.size⟩, (B.out.alloc B.out.size _).alloc (by have := B.out.size; simp; omega) _⟩
      have q1 : ¬ (20 : Int) ≤ (L.length : Int) := by omega
      have q2 : ((L.length : Int) == 20) = false := by simp; omega
      have HF : Hid (r = recsGo s n (L ++ [⟨rk, rv⟩])) := Lib.hid (by rw [HR.out, P1.out n rfl h20])
      have zB := B.out.size
      clear B1 P1 N1 HR
      go_wp2_with (at_builtin; refine wpList_append_own _ rfl _ _ 36 rfl w.heap.size 26 i0 (.agg #[.string ⟨#[]⟩, .string ⟨#[]⟩]) 2 32 Tryd.underlying36 hi0 hz0 hz1 hz2 rfl (by decide) _ L.length (valsR L) rfl ?c0b ⟨w1.heap.size + 1, 0, none⟩ 1 1 (valsR [⟨rk, rv⟩]) rfl (valsR_len _) ?c1b ?c2b ?c3b ?c4b ?c5b ?_)
      case c0b => exact World.ownsRow.alloc (World.ownsRow.alloc O.out _) _
      case c1b => have := newR (w1.alloc (.cells #[.string rk, .string rv] 26)) ⟨rk, rv⟩ 26; simpa [Rec.cells] using this
      case c2b => exact valsR_onecell _
      case c3b => (try simp only [List.length_nil]); simp only [maxLen]; omega
      case c4b => (try simp only [List.length_nil]); omega
      case c5b => simp; omega
      · intro v' w6 hown' hgrow hnil
        have hO : OwnR w6 w.heap.size v' (L ++ [⟨rk, rv⟩]) := own_appR hown' rfl rfl hnil
        have hBl : Below w.heap.size w w6 := ((B.out.alloc zB _).alloc (by simp; omega) _).grown hgrow (by simp; omega) (fun b hb => (World.ownsRow.lt O.out b hb).1)
        have HO2 := Lib.hid hO
        have HB2 := Lib.hid hBl
        clear hO hBl hown' hgrow hnil
        go_wp2_with fail
        go_roundw
        case rel => exact ⟨n, L ++ [⟨rk, rv⟩], rfl, by omega, by simp; omega, HF.out, HO2.out, HB2.out⟩
        case measure => simp [intOf]; omega
    · have hlt2 : ¬ (p : Int) < (s.size : Int) := by omega
      have HF : Hid (r = some L) := Lib.hid (by rw [HR.out, recsGo_end hlt])
      go_wp2_with fail
      go_ret2
      exact ⟨⟨_, by rw [HF.out]; rfl, by rw [HF.out]; exact ⟨O.out, g, cap, rfl⟩⟩, B.out⟩
end Go.Proofs.YtlbanaakjabfnaaDoor
