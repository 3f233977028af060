/- Contracts of spec.GetDec and impl.GetDec, for every string. -/
import Derived.Test.YtndgppabfdeecaaDoorPutDec
import Derived.Test.YtndgppabfdeecaaDoorLead
import Derived.Test.YtndgppabfdeecaaDoorValue
import Derived.Test.YtndgppabfdeecaaDoorBack
namespace Go.Proofs.YtndgppabfdeecaaDoor
open Go.ChangeShapes Go.WideShapes Go.ChangeAt Go.RowKit

def isDig (c : UInt8) : Bool := decide (48 ≤ c.toNat) && decide (c.toNat ≤ 57)
def cand1 (l : List UInt8) : Int := vals 10 0 (l.takeWhile isDig)
def cand2 (l : List UInt8) : Int := (lead 10 0 l).1
def getDecv (s : ByteArray) : Int × Bool := if putDecv (cand2 s.data.toList) s.size = (s, true) then (cand2 s.data.toList, true) else (0, false)

theorem dch_isDig (d : Nat) (h : d < 10) : isDig (dch d) = true := by
  have := dch_nat d (by omega)
  rw [if_pos h] at this
  simp [isDig, this]; omega
theorem digs_isDig : ∀ (k u : Nat), u ≤ k → ∀ c ∈ digs 10 u, isDig c = true := by
  intro k
  induction k with
  | zero => intro u h c hc; obtain rfl : u = 0 := by omega
            simp [digs_zero] at hc
  | succ k ih =>
    intro u h c hc
    by_cases hu : u = 0
    · subst hu; simp [digs_zero] at hc
    · rw [digs_pos (by omega) (by omega)] at hc
      rcases List.mem_append.1 hc with hc | hc
      · exact ih (u / 10) (by omega) c hc
      · simp at hc; subst hc; exact dch_isDig _ (by omega)
theorem numeral_isDig (u : Nat) : ∀ c ∈ numeral 10 u, isDig c = true := by
  intro c hc
  unfold numeral at hc; split at hc
  · simp at hc; subst hc; decide
  · exact digs_isDig u u (Nat.le_refl _) c hc
theorem takeDig (u k : Nat) : (numeral 10 u ++ List.replicate k 32).takeWhile isDig = numeral 10 u := by
  rw [List.takeWhile_append_of_pos (numeral_isDig u)]
  cases k with
  | zero => simp
  | succ k => rw [List.replicate_succ, List.takeWhile_cons]; simp [isDig]
theorem cand_eq {s : ByteArray} {c : Int} (h : putDecv c s.size = (s, true)) : cand1 s.data.toList = c ∧ cand2 s.data.toList = c := by
  unfold putDecv at h
  split at h
  · rename_i hv
    obtain ⟨⟨h0, h1, _, _⟩, _⟩ := hv
    have hs : s.data.toList = decl c s.size := by
      exact (congrArg (fun t : ByteArray => t.data.toList) (Prod.mk.inj h).1).symm
    rw [hs, decl]
    obtain ⟨u, rfl⟩ := Int.eq_ofNat_of_zero_le h0
    have hl : lead (10 : Int) 0 (numeral 10 u ++ List.replicate (s.size - (numeral 10 u).length) 32) = ((u : Int), (numeral 10 u).length) := lead_then 10 (by omega) (by omega) u h1 _ (space_stops _ _)
    have hn : lead (10 : Int) 0 (numeral 10 u) = ((u : Int), (numeral 10 u).length) := lead_numeral 10 (by omega) (by omega) u h1
    simp only [Int.toNat_natCast]
    refine ⟨?_, ?_⟩
    · rw [cand1, takeDig, vals_lead 10 (by omega) 0 _ (by omega), hn]
      simp
    · rw [cand2, hl]
  · simp at h
theorem getDecv_spec (s : ByteArray) : (if putDecv (cand1 s.data.toList) s.size = (s, true) then (cand1 s.data.toList, true) else (0, false)) = getDecv s := by
  unfold getDecv
  by_cases h1 : putDecv (cand1 s.data.toList) s.size = (s, true)
  · have h2 := (cand_eq h1).2
    rw [if_pos h1, h2, if_pos h1]
  · rw [if_neg h1]
    by_cases h2 : putDecv (cand2 s.data.toList) s.size = (s, true)
    · have h3 := (cand_eq h2).1
      rw [← h3] at h2
      exact absurd h2 h1
    · rw [if_neg h2]

theorem ret_gib {a c : Int} {b d : Bool} {r : Int × Bool} (h : r = (a, b)) (h1 : c = a) (h2 : d = b) : Ending.returned (.tuple #[.int .i64 c, .bool d]) = .returned (.tuple #[.int .i64 r.1, .bool r.2]) := by
  subst h h1 h2; rfl
theorem ba_toList (s : ByteArray) : s.toList = s.data.toList := by
  obtain ⟨⟨l⟩⟩ := s; simp
theorem ba_ne {a b : ByteArray} (h : ¬ a = b) : (a.toList == b.toList) = false := by
  rw [ba_toList, ba_toList]
  have : a.data.toList ≠ b.data.toList := fun e => h (ba_ext e)
  simpa using this

theorem ba_eq {a b : ByteArray} (h : a = b) : (a.toList == b.toList) = true := by subst h; simp

theorem getDec_impl (s : ByteArray) (w : World) (hs : s.size ≤ 9223372036854775807) (ht : Tabs w) :
    Calls Tryd.prog 18 #[.string s] w fun e w' => e = .returned (.tuple #[.int .i64 (getDecv s).1, .bool (getDecv s).2]) ∧ Below w.heap.size w w' := by
  have HC := Lib.hid (fun w => lead_10 s w hs)
  have HP := Lib.hid (fun w h => putDec_impl (cand2 s.data.toList) s.size w h)
  have HV := Lib.hid (show (putDecv (cand2 s.data.toList) s.size = (s, true) → getDecv s = (cand2 s.data.toList, true)) ∧ (putDecv (cand2 s.data.toList) s.size ≠ (s, true) → getDecv s = (0, false)) from ⟨fun h => if_pos h, fun h => if_neg h⟩)
  have HT := Lib.hid ht
  clear ht
  simp only [cand2] at HP HV
  generalize putDecv (lead 10 0 s.data.toList).1 s.size = p at HP HV
  generalize lead 10 0 s.data.toList = q at HC HP HV
  obtain ⟨n, u⟩ := q
  obtain ⟨r, f⟩ := p
  simp only at HC HP HV
  cases f
  · go_enter Tryd.func18, Tryd.ntmps18
    go_wp2_with fail
    refine (HC.out _).mono ?_
    rintro e w1 ⟨rfl, rfl⟩
    go_wp2_with fail
    refine (HP.out _ HT.out).mono ?_
    rintro e w2 ⟨rfl, b2⟩
    go_wp2_with fail
    go_ret2
    exact ⟨ret_gib (HV.out.2 (by simp)) rfl rfl, b2⟩
  · by_cases hrs : r = s
    · subst hrs
      go_enter Tryd.func18, Tryd.ntmps18
      go_wp2_with fail
      refine (HC.out _).mono ?_
      rintro e w1 ⟨rfl, rfl⟩
      go_wp2_with fail
      refine (HP.out _ HT.out).mono ?_
      rintro e w2 ⟨rfl, b2⟩
      go_wp2_with fail
      go_ret2
      exact ⟨ret_gib (HV.out.1 (by simp)) rfl rfl, b2⟩
    · have hne := ba_ne hrs
      have HRS := Lib.hid hrs
      clear hrs
      go_enter Tryd.func18, Tryd.ntmps18
      go_wp2_with fail
      refine (HC.out _).mono ?_
      rintro e w1 ⟨rfl, rfl⟩
      go_wp2_with fail
      refine (HP.out _ HT.out).mono ?_
      rintro e w2 ⟨rfl, b2⟩
      go_wp2_with fail
      go_ret2
      exact ⟨ret_gib (HV.out.2 (fun h => HRS.out (Prod.mk.inj h).1)) rfl rfl, b2⟩

/-- The leading digits, counted. -/
def digCount (l : List UInt8) : Nat := (l.takeWhile isDig).length
theorem digCount_le (l : List UInt8) : digCount l ≤ l.length := (List.takeWhile_prefix (l := l) isDig).length_le
theorem take_digCount (l : List UInt8) : l.take (digCount l) = l.takeWhile isDig := by
  obtain ⟨t, ht⟩ := List.takeWhile_prefix (l := l) isDig
  have h : (l.takeWhile isDig ++ t).take (l.takeWhile isDig).length = l.takeWhile isDig := List.take_left
  rw [ht] at h
  exact h
def DigAll (l : List UInt8) : Prop := ∀ c ∈ l, isDig c = true
theorem digCount_stop (s : ByteArray) (k : Nat) (hk : k < s.size) (h : DigAll (s.data.toList.take k)) (hc : isDig s[k] = false) : digCount s.data.toList = k := by
  have hl : k < s.data.toList.length := by simpa using hk
  have e : s.data.toList = s.data.toList.take k ++ (s[k] :: s.data.toList.drop (k + 1)) := by
    rw [← drop_at s k hk]; simp
  unfold digCount
  rw [e, List.takeWhile_append_of_pos h, List.takeWhile_cons, if_neg (by simp [hc])]
  simp; omega
theorem digCount_end (s : ByteArray) (h : DigAll (s.data.toList.take s.size)) : digCount s.data.toList = s.size := by
  have e : s.data.toList.take s.size = s.data.toList := List.take_of_length_le (by simp)
  rw [e] at h
  unfold digCount
  have : s.data.toList.takeWhile isDig = s.data.toList := by
    have := List.takeWhile_append_of_pos (l₂ := []) h
    simpa using this
  rw [this]; simp
theorem isDig_t {c : UInt8} (h : (48 : Int) ≤ (c.toNat : Int) ∧ (c.toNat : Int) ≤ 57) : isDig c = true := by simp [isDig]; omega
theorem isDig_f {c : UInt8} (h : ¬ ((48 : Int) ≤ (c.toNat : Int) ∧ (c.toNat : Int) ≤ 57)) : isDig c = false := by
  simp [isDig]; omega

theorem getDec_spec (s : ByteArray) (w : World) (hs : s.size ≤ 9223372036854775807) :
    Calls Tryd.prog 17 #[.string s] w fun e w' => e = .returned (.tuple #[.int .i64 (getDecv s).1, .bool (getDecv s).2]) ∧ w = w' := by
  have he : (s.extract 0 (digCount s.data.toList)).data.toList = s.data.toList.takeWhile isDig := by
    rw [Lib.extract_data]; simp [take_digCount]
  have hdc := digCount_le s.data.toList
  have hz : s.data.toList.length = s.size := by simp
  rw [hz] at hdc
  have hval := fun w => value_10 (s.extract 0 (digCount s.data.toList)) w (by rw [ByteArray.size_extract]; omega)
  rw [he] at hval
  have HC := Lib.hid hval
  have HP := Lib.hid (fun w => putDec_spec (cand1 s.data.toList) s.size w)
  have HV := Lib.hid (show (putDecv (cand1 s.data.toList) s.size = (s, true) → getDecv s = (cand1 s.data.toList, true)) ∧ (putDecv (cand1 s.data.toList) s.size ≠ (s, true) → getDecv s = (0, false)) from
    ⟨fun h => by rw [← getDecv_spec, if_pos h], fun h => by rw [← getDecv_spec, if_neg h]⟩)
  have HDC := Lib.hid (fun k hk h hc => digCount_stop s k hk h hc)
  have HDE := Lib.hid (digCount_end s)
  simp only [cand1] at HP HV
  clear he hval hz
  generalize digCount s.data.toList = K at HC HDC HDE hdc
  generalize putDecv (vals 10 0 (List.takeWhile isDig s.data.toList)) s.size = p at HP HV
  generalize vals 10 0 (List.takeWhile isDig s.data.toList) = n at HC HP HV
  obtain ⟨r, f⟩ := p
  simp only at HP HV
  have HDA : Hid (∀ k : Nat, k ≤ s.size → DigAll (s.data.toList.take k) → (k = s.size ∨ ∃ h : k < s.size, isDig s[k] = false) → K = k) := Lib.hid (by
    intro k hk h hor
    rcases hor with rfl | ⟨h1, h2⟩
    · exact HDE.out h
    · exact HDC.out k h1 h h2)
  go_enter Tryd.func17, Tryd.ntmps17
  go_wp2_with fail
  go_loop [4] (fun i => ∃ k : Nat, k ≤ s.size ∧ i = .int .i64 k ∧ DigAll (s.data.toList.take k)) (fun i => s.size - (intOf i).toNat)
  case atStart => exact ⟨0, Nat.zero_le _, rfl, by intro c hc; simp at hc⟩
  case round =>
    obtain ⟨k, hk, rfl, hda⟩ := hrel
    have HZ := Lib.hid hda
    clear hda
    by_cases hlt : k < s.size
    · have hcb := UInt8.toNat_lt s[k]
      by_cases d1 : (48 : Int) ≤ (s[k].toNat : Int) ∧ (s[k].toNat : Int) ≤ 57
      · have i1 := inB_t d1
        have HN := Lib.hid (show DigAll (s.data.toList.take (k + 1)) by
          rw [take_snoc s k hlt]; intro c hc
          rcases List.mem_append.1 hc with hc | hc
          · exact HZ.out c hc
          · simp at hc; subst hc; exact isDig_t d1)
        go_wp2_with (go_at_call 40; refine (in_any _ _ _ _).mono ?_; rintro e w' ⟨rfl, rfl⟩)
        go_round
        case rel => exact ⟨k + 1, by omega, by go_num, HN.out⟩
        case measure => simp [intOf]; omega
      · have i1 := inB_f d1
        obtain rfl : K = k := HDA.out k (by omega) HZ.out (.inr ⟨hlt, isDig_f d1⟩)
        go_wp2_with (go_at_call 40; refine (in_any _ _ _ _).mono ?_; rintro e w' ⟨rfl, rfl⟩)
        refine (HC.out _).mono ?_
        rintro e w1 ⟨rfl, rfl⟩
        go_wp2_with fail
        refine (HP.out _).mono ?_
        rintro e w2 ⟨rfl, rfl⟩
        cases f
        · go_wp2_with fail
          go_ret2
          exact ⟨ret_gib (HV.out.2 (by simp)) rfl rfl, rfl⟩
        · by_cases hrs : r = s
          · have HRS := Lib.hid hrs
            have heq := ba_eq hrs
            clear hrs
            go_wp2_with fail
            go_ret2
            exact ⟨ret_gib (HV.out.1 (by rw [HRS.out])) rfl rfl, rfl⟩
          · have hne := ba_ne hrs
            have HRS := Lib.hid hrs
            clear hrs
            go_wp2_with fail
            go_ret2
            exact ⟨ret_gib (HV.out.2 (fun h => HRS.out (Prod.mk.inj h).1)) rfl rfl, rfl⟩
    · have hks : k = s.size := by omega
      obtain rfl : K = k := HDA.out k (by omega) HZ.out (.inl hks)
      clear hks
      go_wp2_with (go_at_call 40; refine (in_any _ _ _ _).mono ?_; rintro e w' ⟨rfl, rfl⟩)
      refine (HC.out _).mono ?_
      rintro e w1 ⟨rfl, rfl⟩
      go_wp2_with fail
      refine (HP.out _).mono ?_
      rintro e w2 ⟨rfl, rfl⟩
      cases f
      · go_wp2_with fail
        go_ret2
        exact ⟨ret_gib (HV.out.2 (by simp)) rfl rfl, rfl⟩
      · by_cases hrs : r = s
        · have HRS := Lib.hid hrs
          have heq := ba_eq hrs
          clear hrs
          go_wp2_with fail
          go_ret2
          exact ⟨ret_gib (HV.out.1 (by rw [HRS.out])) rfl rfl, rfl⟩
        · have hne := ba_ne hrs
          have HRS := Lib.hid hrs
          clear hrs
          go_wp2_with fail
          go_ret2
          exact ⟨ret_gib (HV.out.2 (fun h => HRS.out (Prod.mk.inj h).1)) rfl rfl, rfl⟩
end Go.Proofs.YtndgppabfdeecaaDoor
