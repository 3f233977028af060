/- Texts joined: Com, PartMath, In, WhoS, PMath, Cut1, Comps, Vis, PartOk, Own, MarkT, RowS, OwnL, PartsS, PathOk, Ent, EntW, EntAt, EntRow, EntS, EntZ. -/
import Derived.Test.YtancidbbkoeokabGreatDoorRows
import Derived.WalkKit
import Derived.ProofKit
import Derived.OpenShut
import Derived.ShutString
import Derived.Deep.QuietTactic
import Derived.BigQuiet
import Derived.Lib.Hide
import Derived.Deep.RegionWith
import Derived.Deep.RegionHeld3
import Derived.Lib.Bytealg
import Derived.Test.YtancidbbkoeokabGreatDoorShelf
import Derived.WalkMore
import Derived.RangeFuncNested
import Derived.RangeFuncBound
import Derived.RangeFuncCalls
import Derived.RangeFuncLeaves
import Derived.Shelf.Abstract
import Derived.Shelf.RegionOpen
import Derived.OwnWalkIn
import Derived.TacticsInMore
import Derived.LoopNIn
import Derived.LoopIn
import Derived.Lib.IndexLaws
import Derived.Laws.BytesArg
import Derived.Laws.IdiomStrings
import Derived.WalkSmall
import Derived.Maps.AppendAt
import Derived.IntWalk
import Derived.Test.YtancidbbkoeokabGreatDoorProg
import Derived.Below
import Derived.Deep.Fields
import Derived.Deep.Slices
import Derived.Laws.NewBlocks
import Derived.OwnWalk
/- What all texts of this seat import, and small lemmas on endings and bytes; nothing of the program is said here. -/
namespace Go.Proofs.YtancidbbkoeokabGreatDoor
open Go.ChangeShapes Go.WideShapes Go.ChangeAt Go.RowKit
open Go.ChangeMaps (open_string shut_string)

theorem ret_int {k : IntKind} {a b : Int} (h : a = b) : Ending.returned (.int k a) = .returned (.int k b) := by rw [h]
theorem ret_bool {a b : Bool} (h : a = b) : Ending.returned (.bool a) = .returned (.bool b) := by rw [h]
theorem ret_str {a b : ByteArray} (h : a = b) : Ending.returned (.string a) = .returned (.string b) := by rw [h]
theorem take_snoc (s : ByteArray) (k : Nat) (h : k < s.size) : s.data.toList.take (k + 1) = s.data.toList.take k ++ [s[k]] := by
  rw [List.take_succ_eq_append_getElem (by simpa using h)]; rfl
/-- Two strings are one where their bytes are. -/
theorem ba_ext {a b : ByteArray} (h : a.data.toList = b.data.toList) : a = b := by
  obtain ⟨⟨l⟩⟩ := a
  obtain ⟨⟨m⟩⟩ := b
  simp at h
  rw [h]
theorem ba_list (s : ByteArray) : (⟨s.data.toList.toArray⟩ : ByteArray) = s := by simp
theorem byte_eq0 {c : UInt8} (h : ¬ c = 0) : (((c.toNat : Nat) : Int) == 0) = false := by
  have : c.toNat ≠ 0 := fun e => h (UInt8.toNat_inj.1 (by simpa using e))
  simp; omega
end Go.Proofs.YtancidbbkoeokabGreatDoor

/- What a path component is, in plain Lean: bytes in 33..126 but the slash, 1 to 60 of them, neither one dot nor two. -/
namespace Go.Proofs.YtancidbbkoeokabGreatDoor
open Go.ChangeShapes Go.WideShapes Go.ChangeAt Go.RowKit

theorem ba_toList (s : ByteArray) : s.toList = s.data.toList := by
  obtain ⟨⟨l⟩⟩ := s; simp
theorem ba_ne {a b : ByteArray} (h : ¬ a = b) : (a.toList == b.toList) = false := by
  rw [ba_toList, ba_toList]
  have : a.data.toList ≠ b.data.toList := fun e => h (ba_ext e)
  simpa using this
theorem ba_eq {a b : ByteArray} (h : a = b) : (a.toList == b.toList) = true := by subst h; simp

theorem lit_eq {s : ByteArray} {l : List UInt8} (h : s = ⟨l.toArray⟩) : (s.toList == l) = true := by subst h; simp [ba_toList]
theorem lit_ne {s : ByteArray} {l : List UInt8} (h : ¬ s = ⟨l.toArray⟩) : (s.toList == l) = false := by
  rw [ba_toList]
  have : s.data.toList ≠ l := fun e => h (ba_ext (by simpa using e))
  simpa using this

def okb (c : UInt8) : Bool := decide (33 ≤ c.toNat) && decide (c.toNat ≤ 126) && decide (c.toNat ≠ 47)
def dot1 : ByteArray := ⟨#[46]⟩
def dot2 : ByteArray := ⟨#[46, 46]⟩
def partOkv (s : ByteArray) : Bool := decide (1 ≤ s.size ∧ s.size ≤ 60) && decide (s ≠ dot1) && decide (s ≠ dot2) && s.data.toList.all okb

def OkTo (s : ByteArray) (k : Nat) : Prop := (s.data.toList.take k).all okb = true
theorem OkTo.start (s : ByteArray) : OkTo s 0 := by simp [OkTo]
theorem OkTo.step {s : ByteArray} {k : Nat} (h : OkTo s k) (hk : k < s.size) (hc : okb s[k] = true) : OkTo s (k + 1) := by
  unfold OkTo at h ⊢
  rw [take_snoc s k hk]
  simp only [List.all_append, h, List.all_cons, hc, List.all_nil, Bool.and_self]
theorem OkTo.done {s : ByteArray} (h : OkTo s s.size) : s.data.toList.all okb = true := by
  unfold OkTo at h
  rwa [List.take_of_length_le (by simp)] at h
theorem okb_bad {s : ByteArray} {k : Nat} (hk : k < s.size) (hc : okb s[k] = false) : s.data.toList.all okb = false := by
  cases h : s.data.toList.all okb with
  | false => rfl
  | true =>
    have hm : s[k] ∈ s.data.toList := by
      have : s.data.toList[k]'(by simpa using hk) = s[k] := rfl
      rw [← this]; exact List.getElem_mem _
    have := List.all_eq_true.1 h _ hm
    rw [hc] at this; cases this
theorem okb_t {c : UInt8} (h1 : (33 : Int) ≤ (c.toNat : Int)) (h2 : (c.toNat : Int) ≤ 126) (h3 : ¬ (c.toNat : Int) = 47) : okb c = true := by
  simp [okb]; omega
theorem okb_f {c : UInt8} (h : ¬ ((33 : Int) ≤ (c.toNat : Int) ∧ (c.toNat : Int) ≤ 126) ∨ (c.toNat : Int) = 47) : okb c = false := by
  simp [okb]; omega
theorem partOk_bad {s : ByteArray} (h : s.data.toList.all okb = false) : partOkv s = false := by simp [partOkv, h]
theorem partOk_size {s : ByteArray} (h : ¬ (1 ≤ s.size ∧ s.size ≤ 60)) : partOkv s = false := by simp [partOkv, h]
theorem partOk_dot1 {s : ByteArray} (h : s = dot1) : partOkv s = false := by simp [partOkv, h]
theorem partOk_dot2 {s : ByteArray} (h : s = dot2) : partOkv s = false := by simp [partOkv, h]
theorem partOk_good {s : ByteArray} (h : s.data.toList.all okb = true) (h1 : 1 ≤ s.size ∧ s.size ≤ 60) (h2 : ¬ s = dot1) (h3 : ¬ s = dot2) : partOkv s = true := by simp [partOkv, h, h1, h2, h3]
end Go.Proofs.YtancidbbkoeokabGreatDoor

/- Contract of spec.l01In (in_any), for every argument, the world unchanged. -/
namespace Go.Proofs.YtancidbbkoeokabGreatDoor
open Go.ChangeShapes Go.WideShapes Go.ChangeAt Go.RowKit

def inB (x a b : Int) : Bool := decide (a ≤ x ∧ x ≤ b)

theorem in_any (x a b : Int) (w : World) : Calls Tryz.prog 100 #[.int .i64 x, .int .i64 a, .int .i64 b] w fun e w' => e = .returned (.bool (inB x a b)) ∧ w = w' := by
  by_cases h1 : a ≤ x
  · by_cases h2 : x ≤ b
    · go_enter Tryz.func100, Tryz.ntmps100
      go_wp2
      go_ret
      exact ⟨by simp [inB]; omega, rfl⟩
    · go_enter Tryz.func100, Tryz.ntmps100
      go_wp2
      go_ret
      exact ⟨by simp [inB]; omega, rfl⟩
  · go_enter Tryz.func100, Tryz.ntmps100
    go_wp2
    go_ret
    exact ⟨by simp [inB]; omega, rfl⟩

theorem inB_t {x a b : Int} (h : a ≤ x ∧ x ≤ b) : inB x a b = true := by simp [inB, h]
theorem inB_f {x a b : Int} (h : ¬ (a ≤ x ∧ x ≤ b)) : inB x a b = false := by simp [inB]; omega
end Go.Proofs.YtancidbbkoeokabGreatDoor

/- Contracts of spec.l03Who and spec.l03Sign. -/
namespace Go.Proofs.YtancidbbkoeokabGreatDoor
open Go.ChangeShapes Go.WideShapes Go.ChangeAt Go.RowKit

/-- A byte of a name of a user or group: a small letter, a digit, an underscore. -/
def whob (c : UInt8) : Bool := (decide (97 ≤ c.toNat) && decide (c.toNat ≤ 122)) || (decide (48 ≤ c.toNat) && decide (c.toNat ≤ 57)) || decide (c.toNat = 95)
def whov (s : ByteArray) : Bool := s.data.toList.all whob && decide (s.size ≤ 20)
def signb (c : UInt8) : Bool := decide (33 ≤ c.toNat) && decide (c.toNat ≤ 126)
def signv (s : ByteArray) : Bool := s.data.toList.all signb
/-- The first k bytes are all as f says. -/
def AllB (f : UInt8 → Bool) (s : ByteArray) (k : Nat) : Prop := (s.data.toList.take k).all f = true
theorem AllB.start (f : UInt8 → Bool) (s : ByteArray) : AllB f s 0 := by simp [AllB]
theorem AllB.step {f : UInt8 → Bool} {s : ByteArray} {k : Nat} (h : AllB f s k) (hk : k < s.size) (hc : f s[k] = true) : AllB f s (k + 1) := by
  unfold AllB at h ⊢
  rw [take_snoc s k hk]
  simp only [List.all_append, h, List.all_cons, hc, List.all_nil, Bool.and_self]
theorem AllB.done {f : UInt8 → Bool} {s : ByteArray} (h : AllB f s s.size) : s.data.toList.all f = true := by
  unfold AllB at h
  rwa [List.take_of_length_le (by simp)] at h
theorem allB_bad {f : UInt8 → Bool} {s : ByteArray} {k : Nat} (hk : k < s.size) (hc : f s[k] = false) : s.data.toList.all f = false := by
  cases h : s.data.toList.all f with
  | false => rfl
  | true =>
    have hm : s[k] ∈ s.data.toList := by
      have : s.data.toList[k]'(by simpa using hk) = s[k] := rfl
      rw [← this]; exact List.getElem_mem _
    have := List.all_eq_true.1 h _ hm
    rw [hc] at this; cases this
theorem sign_spec (s : ByteArray) (w : World) (hs : s.size ≤ 4194304) :
    Calls Tryz.prog 158 #[.string s] w fun e w' => e = .returned (.bool (signv s)) ∧ Below w.heap.size w w' := by
  have HB : Hid (∀ k, (h : k < s.size) → signb s[k] = false → signv s = false) := Lib.hid (fun k h hc => allB_bad h hc)
  have HD : Hid (AllB signb s s.size → signv s = true) := Lib.hid (fun h => h.done)
  have HI := Lib.hid in_any
  generalize signv s = r at HB HD
  go_enter Tryz.func158, Tryz.ntmps158
  go_wp2_with fail
  go_loopw [3] (fun u wr => ∃ i : Nat, u = .int .i64 i ∧ i ≤ s.size ∧ AllB signb s i ∧ Below w.heap.size w wr) (fun u _ => s.size - (intOf u).toNat)
  case atStart => exact ⟨0, rfl, Nat.zero_le _, AllB.start _ _, Below.refl _ _⟩
  case round =>
    obtain ⟨i, rfl, hi, hr, hb⟩ := hrel
    have HR := Lib.hid hr
    have B := Lib.hid hb
    clear hr hb
    by_cases hlt : i < s.size
    · have hlt2 : (i : Int) < (s.size : Int) := by omega
      have h8 := (s[i]).toNat_lt
      cases hc : signb s[i] with
      | false =>
        have HF : Hid (r = false) := Lib.hid (HB.out i hlt hc)
        have hq : inB ((s[i].toNat : Nat) : Int) 33 126 = false := by
          simp only [signb] at hc
          cases hx : inB ((s[i].toNat : Nat) : Int) 33 126 with
          | false => rfl
          | true => simp [inB] at hx hc; omega
        go_wp2_with fail
        refine (HI.out _ _ _ _).mono ?_
        rintro e w1 ⟨rfl, rfl⟩
        rw [hq]
        clear hq hc
        go_wp2_with fail
        go_ret
        exact ⟨ret_bool HF.out.symm, B.out⟩
      | true =>
        have HS := Lib.hid (HR.out.step hlt hc)
        have hq : inB ((s[i].toNat : Nat) : Int) 33 126 = true := by
          simp only [signb] at hc
          cases hx : inB ((s[i].toNat : Nat) : Int) 33 126 with
          | true => rfl
          | false => simp [inB] at hx hc; omega
        go_wp2_with fail
        refine (HI.out _ _ _ _).mono ?_
        rintro e w1 ⟨rfl, rfl⟩
        rw [hq]
        clear hq hc
        go_wp2_with fail
        go_roundw
        case rel => exact ⟨i + 1, by go_num, by omega, HS.out, B.out⟩
        case measure => simp [intOf]; omega
    · obtain rfl : i = s.size := by omega
      have hlt2 : ¬ (s.size : Int) < (s.size : Int) := by omega
      have HF : Hid (r = true) := Lib.hid (HD.out HR.out)
      go_wp2_with fail
      go_ret
      exact ⟨ret_bool HF.out.symm, B.out⟩
theorem whob_parts {c : UInt8} : whob c = (inB ((c.toNat : Nat) : Int) 97 122 || inB ((c.toNat : Nat) : Int) 48 57 || decide (c.toNat = 95)) := by
  have h1 : inB ((c.toNat : Nat) : Int) 97 122 = (decide (97 ≤ c.toNat) && decide (c.toNat ≤ 122)) := by
    simp only [inB, ← Bool.decide_and]
    congr 1
    apply propext
    omega
  have h2 : inB ((c.toNat : Nat) : Int) 48 57 = (decide (48 ≤ c.toNat) && decide (c.toNat ≤ 57)) := by
    simp only [inB, ← Bool.decide_and]
    congr 1
    apply propext
    omega
  rw [h1, h2]; rfl
theorem who_spec (s : ByteArray) (w : World) (hs : s.size ≤ 4194304) :
    Calls Tryz.prog 157 #[.string s] w fun e w' => e = .returned (.bool (whov s)) ∧ Below w.heap.size w w' := by
  have HB : Hid (∀ k, (h : k < s.size) → whob s[k] = false → whov s = false) := Lib.hid (fun k h hc => by simp [whov, allB_bad h hc])
  have HD : Hid (AllB whob s s.size → whov s = decide (s.size ≤ 20)) := Lib.hid (fun h => by simp [whov, h.done])
  have HI := Lib.hid in_any
  generalize whov s = r at HB HD
  go_enter Tryz.func157, Tryz.ntmps157
  go_wp2_with fail
  go_loopw [3] (fun u wr => ∃ i : Nat, u = .int .i64 i ∧ i ≤ s.size ∧ AllB whob s i ∧ Below w.heap.size w wr) (fun u _ => s.size - (intOf u).toNat)
  case atStart => exact ⟨0, rfl, Nat.zero_le _, AllB.start _ _, Below.refl _ _⟩
  case round =>
    obtain ⟨i, rfl, hi, hr, hb⟩ := hrel
    have HR := Lib.hid hr
    have B := Lib.hid hb
    clear hr hb
    by_cases hlt : i < s.size
    · have hlt2 : (i : Int) < (s.size : Int) := by omega
      have h8 := (s[i]).toNat_lt
      have HW := Lib.hid (whob_parts (c := s[i]))
      have HBi := Lib.hid (HB.out i hlt)
      have HSi := Lib.hid (fun hc => HR.out.step hlt hc)
      cases ha : inB ((s[i].toNat : Nat) : Int) 97 122 with
      | true =>
        have HS := Lib.hid (HSi.out (by rw [HW.out, ha]; rfl))
        clear HW HBi HSi
        go_wp2_with fail
        refine (HI.out _ _ _ _).mono ?_
        rintro e w1 ⟨rfl, rfl⟩
        rw [ha]
        clear ha
        go_wp2_with fail
        go_roundw
        case rel => exact ⟨i + 1, by go_num, by omega, HS.out, B.out⟩
        case measure => simp [intOf]; omega
      | false =>
        cases hd : inB ((s[i].toNat : Nat) : Int) 48 57 with
        | true =>
          have HS := Lib.hid (HSi.out (by rw [HW.out, ha, hd]; rfl))
          clear HW HBi HSi
          go_wp2_with fail
          refine (HI.out _ _ _ _).mono ?_
          rintro e w1 ⟨rfl, rfl⟩
          rw [ha]
          clear ha
          go_wp2_with fail
          refine (HI.out _ _ _ _).mono ?_
          rintro e w1 ⟨rfl, rfl⟩
          rw [hd]
          clear hd
          go_wp2_with fail
          go_roundw
          case rel => exact ⟨i + 1, by go_num, by omega, HS.out, B.out⟩
          case measure => simp [intOf]; omega
        | false =>
          by_cases hu : ((s[i].toNat : Nat) : Int) = 95
          · have HS := Lib.hid (HSi.out (by rw [HW.out, ha, hd, decide_eq_true (show s[i].toNat = 95 by omega)]; rfl))
            clear HW HBi HSi
            go_wp2_with fail
            refine (HI.out _ _ _ _).mono ?_
            rintro e w1 ⟨rfl, rfl⟩
            rw [show inB 95 97 122 = false from by decide]
            clear ha
            go_wp2_with fail
            refine (HI.out _ _ _ _).mono ?_
            rintro e w1 ⟨rfl, rfl⟩
            rw [show inB 95 48 57 = false from by decide]
            clear hd
            go_wp2_with fail
            go_roundw
            case rel => exact ⟨i + 1, by go_num, by omega, HS.out, B.out⟩
            case measure => simp [intOf]; omega
          · have HF : Hid (r = false) := Lib.hid (HBi.out (by rw [HW.out, ha, hd, decide_eq_false (show ¬ s[i].toNat = 95 by omega)]; rfl))
            clear HW HBi HSi
            go_wp2_with fail
            refine (HI.out _ _ _ _).mono ?_
            rintro e w1 ⟨rfl, rfl⟩
            rw [ha]
            clear ha
            go_wp2_with fail
            refine (HI.out _ _ _ _).mono ?_
            rintro e w1 ⟨rfl, rfl⟩
            rw [hd]
            clear hd
            go_wp2_with fail
            go_ret
            exact ⟨ret_bool HF.out.symm, B.out⟩
    · obtain rfl : i = s.size := by omega
      have hlt2 : ¬ (s.size : Int) < (s.size : Int) := by omega
      have HF : Hid (r = decide (s.size ≤ 20)) := Lib.hid (HD.out HR.out)
      go_wp2_with fail
      go_ret
      exact ⟨ret_bool (by rw [HF.out]; simp; try omega), B.out⟩
end Go.Proofs.YtancidbbkoeokabGreatDoor

/- The parts of a text between its slashes, plain lists only. -/
namespace Go.Proofs.YtancidbbkoeokabGreatDoor
open Go.ChangeShapes Go.WideShapes Go.ChangeAt Go.RowKit

def partsL (cur : List UInt8) : List UInt8 → List (List UInt8)
  | [] => [cur]
  | c :: r => if c = 47 then cur :: partsL [] r else partsL (cur ++ [c]) r
def baL (l : List UInt8) : ByteArray := ⟨l.toArray⟩
theorem baL_data (l : List UInt8) : (baL l).data.toList = l := by simp [baL]
theorem baL_size (l : List UInt8) : (baL l).size = l.length := by simp [baL, ByteArray.size]
theorem ba_baL (s : ByteArray) : baL s.data.toList = s := by simp [baL]
/-- The parts of s. -/
def partsv (s : ByteArray) : List ByteArray := (partsL [] s.data.toList).map baL

theorem partsL_len (l : List UInt8) : ∀ cur, (partsL cur l).length = l.count 47 + 1 := by
  induction l with
  | nil => intro cur; simp [partsL]
  | cons c r ih =>
    intro cur
    by_cases hc : c = 47
    · subst hc; simp [partsL, ih]
    · simp only [partsL, hc, if_false, ih]; rw [List.count_cons_of_ne (fun e => hc e)]
theorem partsv_len (s : ByteArray) : (partsv s).length = s.data.toList.count 47 + 1 := by simp [partsv, partsL_len]
theorem partsv_le (s : ByteArray) : (partsv s).length ≤ s.size + 1 := by
  rw [partsv_len]
  have h := List.count_le_length (a := (47 : UInt8)) (l := s.data.toList)
  have e : s.data.toList.length = s.size := by simp
  omega
theorem partsL_size (l : List UInt8) : ∀ cur n, cur.length + l.length ≤ n → ∀ x ∈ partsL cur l, x.length ≤ n := by
  induction l with
  | nil => intro cur n h x hx; simp [partsL] at hx; subst hx; simpa using h
  | cons c r ih =>
    intro cur n h x hx
    simp at h
    by_cases hc : c = 47
    · simp only [partsL, hc, if_true, List.mem_cons] at hx
      rcases hx with rfl | hx
      · omega
      · exact ih [] n (by simp; omega) x hx
    · simp only [partsL, hc, if_false] at hx
      exact ih (cur ++ [c]) n (by simp; omega) x hx
theorem partsv_size (s : ByteArray) : ∀ x ∈ partsv s, x.size ≤ s.size := by
  intro x hx
  obtain ⟨l, hl, rfl⟩ := List.mem_map.1 hx
  rw [baL_size]
  exact partsL_size s.data.toList [] s.size (by simp) l hl
theorem partsv_ne (s : ByteArray) : partsv s ≠ [] := by
  intro h
  have := partsv_len s
  rw [h] at this; simp at this
theorem data_inj {l m : List ByteArray} (h : l.map (·.data.toList) = m.map (·.data.toList)) : l = m := by
  induction l generalizing m with
  | nil => cases m with
    | nil => rfl
    | cons x xs => simp at h
  | cons y ys ih => cases m with
    | nil => simp at h
    | cons x xs =>
      simp only [List.map_cons, List.cons.injEq] at h
      rw [ba_ext h.1, ih h.2]
theorem partsv_data (s : ByteArray) : (partsv s).map (·.data.toList) = partsL [] s.data.toList := by
  simp [partsv, Function.comp_def, baL]

/-- What stands between f and k, and is to be cut from k on. -/
def PartsFrom (s : ByteArray) (D : List ByteArray) (f k : Nat) : Prop :=
  D.map (·.data.toList) ++ partsL ((s.data.toList.drop f).take (k - f)) (s.data.toList.drop k) = partsL [] s.data.toList
theorem pf_start (s : ByteArray) : PartsFrom s [] 0 0 := by simp [PartsFrom]
theorem drop_at (s : ByteArray) (k : Nat) (h : k < s.size) : s.data.toList.drop k = s[k] :: s.data.toList.drop (k + 1) := by
  have hl : k < s.data.toList.length := by simpa using h
  rw [List.drop_eq_getElem_cons hl]; rfl
theorem take_mid (s : ByteArray) (f k : Nat) (hf : f ≤ k) (h : k < s.size) : (s.data.toList.drop f).take (k + 1 - f) = (s.data.toList.drop f).take (k - f) ++ [s[k]] := by
  have hl : k - f < (s.data.toList.drop f).length := by simp; omega
  rw [show k + 1 - f = k - f + 1 from by omega, List.take_succ_eq_append_getElem hl]
  congr 2
  rw [List.getElem_drop]
  have e : f + (k - f) = k := by omega
  simp only [e]; rfl
theorem pf_cut {s : ByteArray} {D : List ByteArray} {f k : Nat} (h : PartsFrom s D f k) (hk : k < s.size) (hc : s[k] = 47) : PartsFrom s (D ++ [s.extract f k]) (k + 1) (k + 1) := by
  unfold PartsFrom at h ⊢
  rw [drop_at s k hk, partsL, if_pos hc] at h
  rw [← h]
  simp
theorem pf_go {s : ByteArray} {D : List ByteArray} {f k : Nat} (h : PartsFrom s D f k) (hf : f ≤ k) (hk : k < s.size) (hc : ¬ s[k] = 47) : PartsFrom s D f (k + 1) := by
  unfold PartsFrom at h ⊢
  rw [drop_at s k hk, partsL, if_neg hc] at h
  rw [take_mid s f k hf hk]
  exact h
theorem pf_end {s : ByteArray} {D : List ByteArray} {f : Nat} (h : PartsFrom s D f s.size) : D ++ [s.extract f s.size] = partsv s := by
  apply data_inj
  rw [partsv_data, ← h]
  have e : s.data.toList.drop s.size = [] := List.drop_eq_nil_of_le (by simp)
  rw [e]
  simp [partsL]

theorem partsL_miss (l : List UInt8) : ∀ cur, Lib.indexByte l 47 = -1 → partsL cur l = [cur ++ l] := by
  induction l with
  | nil => intro cur _; simp [partsL]
  | cons b r ih =>
    intro cur h
    by_cases hb : b = 47
    · subst hb; simp [Lib.indexByte] at h
    · have hb' : (b == 47) = false := by simpa using hb
      rw [Lib.indexByte, hb'] at h
      have g := Lib.indexByte_ge r 47
      by_cases hr : Lib.indexByte r 47 = -1
      · simp only [partsL, hb, if_false]; rw [ih _ hr]; simp
      · rw [if_neg (by simp), if_neg (by simpa using hr)] at h
        omega
theorem partsL_hit (l : List UInt8) : ∀ cur (i : Nat), Lib.indexByte l 47 = i → i < l.length ∧ partsL cur l = (cur ++ l.take i) :: partsL [] (l.drop (i + 1)) := by
  induction l with
  | nil => intro cur i h; simp [Lib.indexByte] at h
  | cons b r ih =>
    intro cur i h
    by_cases hb : b = 47
    · subst hb
      simp [Lib.indexByte] at h
      obtain rfl : i = 0 := by omega
      simp [partsL]
    · have hb' : (b == 47) = false := by simpa using hb
      rw [Lib.indexByte, hb'] at h
      by_cases hr : Lib.indexByte r 47 = -1
      · rw [if_neg (by simp), if_pos (by simpa using hr)] at h; omega
      · rw [if_neg (by simp), if_neg (by simpa using hr)] at h
        obtain ⟨j, rfl⟩ : ∃ j, i = j + 1 := ⟨i - 1, by have g := Lib.indexByte_ge r 47; omega⟩
        obtain ⟨h1, h2⟩ := ih (cur ++ [b]) j (by omega)
        refine ⟨by simp; omega, ?_⟩
        simp only [partsL, hb, if_false]
        rw [h2]
        simp
theorem partsv_miss {s : ByteArray} (h : Lib.indexByte s.data.toList 47 = -1) : partsv s = [s] := by
  simp [partsv, partsL_miss _ [] h, ba_baL]
theorem partsv_hit {s : ByteArray} {i : Nat} (h : Lib.indexByte s.data.toList 47 = i) : i < s.size ∧ partsv s = s.extract 0 i :: partsv (s.extract (i + 1) s.size) := by
  obtain ⟨h1, h2⟩ := partsL_hit _ [] i h
  have h1' : i < s.size := by simpa using h1
  refine ⟨h1', ?_⟩
  have e1 : baL (s.data.toList.take i) = s.extract 0 i := ba_ext (by simp [baL])
  have e2 : (s.extract (i + 1) s.size).data.toList = s.data.toList.drop (i + 1) := by
    simp
    rw [List.take_of_length_le (by simp)]
  rw [partsv, h2, partsv, e2]
  simp [e1]
theorem slash_cases (s : ByteArray) : Lib.indexByte s.data.toList 47 = -1 ∨ ∃ i : Nat, Lib.indexByte s.data.toList 47 = i := by
  have g := Lib.indexByte_ge s.data.toList 47
  by_cases h : Lib.indexByte s.data.toList 47 = -1
  · exact .inl h
  · exact .inr ⟨(Lib.indexByte s.data.toList 47).toNat, by omega⟩
end Go.Proofs.YtancidbbkoeokabGreatDoor

/- Contract of strings.Cut at one slash. -/
namespace Go.Proofs.YtancidbbkoeokabGreatDoor
open Go.ChangeShapes Go.WideShapes Go.ChangeAt Go.RowKit

theorem scut_miss (s : ByteArray) (w : World) (h : Lib.indexByte s.data.toList 47 = -1) :
    Calls Tryz.prog 208 #[.string s, .string ⟨#[47]⟩] w fun e w' => e = .returned (.tuple #[.string s, .string ⟨#[]⟩, .bool false]) ∧ ∃ n, w' = w.drewN n := by
  have H := Lib.hid (fun w => Tryz.stringslite_Index_one s 47 w)
  rw [h] at H
  clear h
  go_enter Tryz.func208, Tryz.ntmps208
  go_wp2_with fail
  refine (H.out _).mono ?_
  rintro e w' ⟨rfl, rfl⟩
  go_wp2_with fail
  go_ret3
  exact ⟨rfl, 0, rfl⟩
theorem scut_hit (s : ByteArray) (i : Nat) (w : World) (hs : s.size ≤ 9223372036854775806) (hi : i < s.size) (h : Lib.indexByte s.data.toList 47 = i) :
    Calls Tryz.prog 208 #[.string s, .string ⟨#[47]⟩] w fun e w' => e = .returned (.tuple #[.string (s.extract 0 i), .string (s.extract (i + 1) s.size), .bool true]) ∧ ∃ n, w' = w.drewN n := by
  have H := Lib.hid (fun w => Tryz.stringslite_Index_one s 47 w)
  rw [h] at H
  clear h
  have c1 : (0 : Int) ≤ ↑i := by omega
  have c2 : (↑i : Int) ≤ ↑s.size := by omega
  have c3 : (0 : Int) ≤ ↑i + 1 := by omega
  have c4 : (↑i + 1 : Int) ≤ ↑s.size := by omega
  go_enter Tryz.func208, Tryz.ntmps208
  go_wp2_with fail
  refine (H.out _).mono ?_
  rintro e w' ⟨rfl, rfl⟩
  go_wp2_with fail
  go_region
  go_wp2
  go_ret3
  exact ⟨rfl, 1, rfl⟩
theorem cut1_miss (s : ByteArray) (w : World) (h : Lib.indexByte s.data.toList 47 = -1) :
    Calls Tryz.prog 181 #[.string s, .string ⟨#[47]⟩] w fun e w' => e = .returned (.tuple #[.string s, .string ⟨#[]⟩, .bool false]) ∧ ∃ n, w' = w.drewN n := by
  have H := Lib.hid (fun w => scut_miss s w h)
  clear h
  go_enter Tryz.func181, Tryz.ntmps181
  go_wp2_with fail
  refine (H.out _).mono ?_
  rintro e w' ⟨rfl, n, rfl⟩
  go_wp2_with fail
  go_ret3
  exact ⟨rfl, n, rfl⟩
theorem cut1_hit (s : ByteArray) (i : Nat) (w : World) (hs : s.size ≤ 9223372036854775806) (hi : i < s.size) (h : Lib.indexByte s.data.toList 47 = i) :
    Calls Tryz.prog 181 #[.string s, .string ⟨#[47]⟩] w fun e w' => e = .returned (.tuple #[.string (s.extract 0 i), .string (s.extract (i + 1) s.size), .bool true]) ∧ ∃ n, w' = w.drewN n := by
  have H := Lib.hid (fun w => scut_hit s i w hs hi h)
  clear h
  go_enter Tryz.func181, Tryz.ntmps181
  go_wp2_with fail
  refine (H.out _).mono ?_
  rintro e w' ⟨rfl, n, rfl⟩
  go_wp2_with fail
  go_ret3
  exact ⟨rfl, n, rfl⟩
end Go.Proofs.YtancidbbkoeokabGreatDoor

/- The iterator of impl.components: what it yields are the parts of its text, in order; it stops where a round says so. -/
namespace Go.Proofs.YtancidbbkoeokabGreatDoor
open Go.RowKit Go.Shelf

attribute [local go_sem] Oper.semAt_some

theorem wide_room {n : Nat} : Fence.wide.depth.isSome = true → 1 ≤ n := fun h => by simp [Fence.wide] at h
theorem grownBy_drewN (w : World) (n : Nat) : w.grownBy (w.drewN n) none := ⟨rfl, rfl, rfl, Nat.le_refl _, fun _ _ _ => rfl⟩

set_option maxRecDepth 100000 in
set_option maxHeartbeats 1000000 in
theorem comps_in (n l Bn n₀ : Nat) (s : ByteArray) (J Jx : List ByteArray → World → Prop) (hs : s.size ≤ 9223372036854775806) (B : Nat) (hJ : AbidesFrom B J)
    (hY : ∀ pre x W, J pre W → pre.length < (partsv s).length → YieldAt Fence.wide (n - 1) Tryz.prog l #[.string x] W fun e W' =>
      (e = .returned (.bool true) ∧ J (pre ++ [x]) W' ∧ Below n₀ W W') ∨ (e = .returned (.bool false) ∧ Jx (pre ++ [x]) W'))
    (W : World) (hBn : W.cell? ⟨Bn, 0, none⟩ = some (.string s)) (h0 : J [] W) :
    CallsIn Fence.wide n Tryz.prog 212 #[.func (.yield l) #[] #[], .pointer (some ⟨Bn, 0, none⟩)] W fun e W' => (∃ v, e = .returned v) ∧
      ((∃ ys, ys = partsv s ∧ J ys W') ∨ (∃ pre, pre <+: partsv s ∧ Jx pre W')) := by
  have HS := Lib.hid hs
  clear hs
  refine callsIn_of_wp Tryz.func212 rfl trivial ?_ rfl
  simp only [Tryz.ntmps212, List.size_toArray, List.length_cons, List.length_nil, Nat.reduceAdd, Nat.reduceSub, Array.replicate_succ, Array.replicate_zero, List.push_toArray, List.append_toArray, List.nil_append, List.cons_append]
  gi_wp2
  gi_loopw [3, 4] (fun r m wr => ∃ (pre : List ByteArray) (rest : ByteArray) (b : Bool), r = .string rest ∧ m = .bool b ∧ rest.size ≤ s.size ∧ (b = true → pre ++ partsv rest = partsv s) ∧ (b = false → rest.size = 0 ∧ pre = partsv s) ∧ J pre wr)
    (fun r m _ => (match r, m with | .string t, .bool b => t.size + (if b then 1 else 0) | _, _ => 0))
  case atStart => exact ⟨[], s, true, rfl, rfl, Nat.le_refl _, fun _ => rfl, (fun h => by cases h), h0⟩
  case round =>
    obtain ⟨pre, rest, b, rfl, rfl, hle, hb1, hb2, hJs⟩ := hrel
    cases b with
    | false =>
      have HP := Lib.hid (hb2 rfl)
      have HJs := Lib.hid hJs
      clear hb1 hb2 hJs
      gi_wp2
      go_end0
      exact ⟨⟨_, rfl⟩, .inl ⟨pre, HP.out.2, HJs.out⟩⟩
    | true =>
      have HP := Lib.hid (hb1 rfl)
      have HJs := Lib.hid hJs
      clear hb1 hb2 hJs
      rcases slash_cases rest with hm | ⟨i, hi⟩
      · have HC := Lib.hid (fun w => (callsIn_wide (n := n - 1)).2 (cut1_miss rest w hm))
        have HX : Hid (pre ++ [rest] = partsv s) := Lib.hid (by rw [← HP.out, partsv_miss hm])
        clear hm
        gi_wp2_with fail
        refine ⟨trivial, wide_room, (HC.out _).mono ?_⟩
        rintro e w' ⟨rfl, k, rfl⟩
        obtain ⟨fn, tmps, assign, body, hy, hR⟩ := hY pre rest (wr.drewN k) (hJ _ _ _ none HJs.out (grownBy_drewN _ _) (fun _ h => by cases h)) (by rw [← HX.out]; simp)
        have HR := Lib.hid hR
        clear hR
        gi_wp2
        refine ⟨wide_room, HR.out.mono ?_⟩
        rintro e W3 (⟨rfl, hJ3, _⟩ | ⟨rfl, hJx3⟩)
        · have HJ3 := Lib.hid hJ3
          clear hJ3
          gi_wp2
          go_roundw
          case rel => exact ⟨pre ++ [rest], ⟨#[]⟩, false, rfl, rfl, Nat.zero_le _, (fun h => by cases h), (fun _ => ⟨rfl, HX.out⟩), HJ3.out⟩
          case measure => simp; exact Nat.zero_lt_succ _
        · have HJ3 := Lib.hid hJx3
          clear hJx3
          gi_wp2
          refine bodyPost_ret (results_none rfl _ _ _) rfl ?_
          exact ⟨⟨_, rfl⟩, .inr ⟨pre ++ [rest], ⟨[], by rw [List.append_nil]; exact HX.out⟩, HJ3.out⟩⟩
      · obtain ⟨hil, hph⟩ := partsv_hit hi
        have HC := Lib.hid (fun w => (callsIn_wide (n := n - 1)).2 (cut1_hit rest i w (by have := HS.out; omega) hil hi))
        have HX : Hid (pre ++ [rest.extract 0 i] ++ partsv (rest.extract (i + 1) rest.size) = partsv s) := Lib.hid (by rw [← HP.out, hph]; simp)
        have HZ : Hid ((rest.extract (i + 1) rest.size).size = rest.size - (i + 1)) := Lib.hid (by simp)
        have hpl : Hid (pre.length < (partsv s).length) := Lib.hid (by rw [← HX.out]; simp)
        clear hi hph
        generalize hA : rest.extract 0 i = a at HC HX
        generalize hB : rest.extract (i + 1) rest.size = c at HC HX HZ
        clear hA hB
        gi_wp2_with fail
        refine ⟨trivial, wide_room, (HC.out _).mono ?_⟩
        rintro e w' ⟨rfl, k, rfl⟩
        obtain ⟨fn, tmps, assign, body, hy, hR⟩ := hY pre a (wr.drewN k) (hJ _ _ _ none HJs.out (grownBy_drewN _ _) (fun _ h => by cases h)) hpl.out
        have HR := Lib.hid hR
        clear hR
        gi_wp2
        refine ⟨wide_room, HR.out.mono ?_⟩
        rintro e W3 (⟨rfl, hJ3, _⟩ | ⟨rfl, hJx3⟩)
        · have HJ3 := Lib.hid hJ3
          clear hJ3
          gi_wp2
          go_roundw
          case rel => exact ⟨pre ++ [a], c, true, rfl, rfl, (by have := HZ.out; omega), (fun _ => HX.out), (fun h => by cases h), HJ3.out⟩
          case measure => have := HZ.out; simp; omega
        · have HJ3 := Lib.hid hJx3
          clear hJx3
          gi_wp2
          refine bodyPost_ret (results_none rfl _ _ _) rfl ?_
          exact ⟨⟨_, rfl⟩, .inr ⟨pre ++ [a], ⟨partsv c, HX.out⟩, HJ3.out⟩⟩

/-- The function value of impl.components: its text lies in a box. -/
theorem comps_make (n : Nat) (s : ByteArray) (w : World) :
    CallsIn Fence.wide n Tryz.prog 186 #[.string s] w fun e w' => e = .returned (.func (.func 212) #[] #[.pointer (some ⟨w.heap.size, 0, none⟩)]) ∧ w' = w.alloc (.cells #[.string s] 9) := by
  refine callsIn_of_wp Tryz.func186 rfl trivial ?_ rfl
  simp only [Tryz.ntmps186, List.size_toArray, List.length_cons, List.length_nil, Nat.reduceAdd, Nat.reduceSub, Array.replicate_succ, Array.replicate_zero, List.push_toArray, List.append_toArray, List.nil_append, List.cons_append]
  gi_wp2
  go_ret
  exact ⟨rfl, rfl⟩

theorem comps_stops (n Bn n₀ : Nat) (s : ByteArray) (w : World) (hs : s.size ≤ 9223372036854775806) (hBn : Bn < w.heap.size) (hc : w.cell? ⟨Bn, 0, none⟩ = some (.string s)) :
    SeqStopsK Fence.wide n Tryz.prog 212 #[.pointer (some ⟨Bn, 0, none⟩)] (fun x : ByteArray => #[Value.string x]) (Below n₀) (fun ys => ys = partsv s) (fun pre => pre <+: partsv s) (partsv s).length w :=
  fun l J Jx W hW hJ _ hY h0 => comps_in n l Bn n₀ s J Jx hs _ hJ hY W ((hW.cell (p := ⟨Bn, 0, none⟩) hBn).trans hc) h0
end Go.Proofs.YtancidbbkoeokabGreatDoor

/- Contracts of impl.visible and of strings.Contains at one byte, in plain words. -/
namespace Go.Proofs.YtancidbbkoeokabGreatDoor
open Go.ChangeShapes Go.WideShapes Go.ChangeAt Go.RowKit

theorem visible_impl (s : ByteArray) (w : World) (hs : s.size ≤ 9223372036854775807) : Calls Tryz.prog 211 #[.string s] w fun e w' => e = .returned (.bool (signv s)) ∧ w = w' := by
  have HB : Hid (∀ k, (h : k < s.size) → signb s[k] = false → signv s = false) := Lib.hid (fun k h hc => allB_bad h hc)
  have HD : Hid (AllB signb s s.size → signv s = true) := Lib.hid (fun h => h.done)
  generalize signv s = r at HB HD
  go_enter Tryz.func211, Tryz.ntmps211
  go_wp2_with fail
  go_loopw [3, 6] (fun _ u wr => ∃ i : Nat, u = .int .i64 i ∧ i ≤ s.size ∧ AllB signb s i ∧ wr = w) (fun _ u _ => s.size - (intOf u).toNat)
  case atStart => exact ⟨0, rfl, Nat.zero_le _, AllB.start _ _, rfl⟩
  case round =>
    obtain ⟨i, rfl, hi, hr, rfl⟩ := hrel
    have HR := Lib.hid hr
    clear hr
    by_cases hlt : i < s.size
    · have hlt2 : (i : Int) < (s.size : Int) := by omega
      have h8 := (s[i]).toNat_lt
      cases hc : signb s[i] with
      | false =>
        have HF : Hid (r = false) := Lib.hid (HB.out i hlt hc)
        have hq : ((s[i].toNat : Nat) : Int) < 33 ∨ (126 : Int) < ((s[i].toNat : Nat) : Int) := by simp [signb] at hc; omega
        clear hc HB HD HR
        by_cases a1 : ((s[i].toNat : Nat) : Int) < 33
        · clear hq
          go_wp2_with fail
          go_ret
          exact ⟨ret_bool HF.out.symm, rfl⟩
        · have a2 : (126 : Int) < ((s[i].toNat : Nat) : Int) := by omega
          clear hq
          go_wp2_with fail
          go_ret
          exact ⟨ret_bool HF.out.symm, rfl⟩
      | true =>
        have HS := Lib.hid (HR.out.step hlt hc)
        have a1 : ¬ ((s[i].toNat : Nat) : Int) < 33 := by simp [signb] at hc; omega
        have a2 : ¬ (126 : Int) < ((s[i].toNat : Nat) : Int) := by simp [signb] at hc; omega
        clear hc HB HD HR
        go_wp2_with fail
        go_roundw
        case rel => exact ⟨i + 1, by go_num, by omega, HS.out, by trivial⟩
        case measure => simp [intOf]; omega
    · obtain rfl : i = s.size := by omega
      have hlt2 : ¬ (s.size : Int) < (s.size : Int) := by omega
      have HF : Hid (r = true) := Lib.hid (HD.out HR.out)
      go_wp2_with fail
      go_ret
      exact ⟨ret_bool HF.out.symm, rfl⟩
/-- The byte c stands somewhere in s. -/
def hasB (c : UInt8) (s : ByteArray) : Bool := decide (0 ≤ Lib.indexByte s.data.toList c)
theorem hasB_iff (c : UInt8) (s : ByteArray) : hasB c s = true ↔ c ∈ s.data.toList := by
  unfold hasB
  rw [decide_eq_true_iff]
  constructor
  · intro h
    obtain ⟨o, ho⟩ := Int.eq_ofNat_of_zero_le h
    exact List.mem_of_getElem? (Lib.indexByte_some ho).1
  · intro h
    have hg := Lib.indexByte_ge s.data.toList c
    by_cases h1 : Lib.indexByte s.data.toList c = -1
    · obtain ⟨k, hk⟩ := List.mem_iff_getElem?.1 h
      exact absurd hk (Lib.indexByte_none h1 k)
    · omega
theorem hasB_all (c : UInt8) (s : ByteArray) : hasB c s = !(s.data.toList.all (fun x => x != c)) := by
  cases h : hasB c s with
  | true =>
    have hm := (hasB_iff c s).1 h
    symm
    simp only [Bool.not_eq_true', List.all_eq_false]
    exact ⟨c, hm, by simp⟩
  | false =>
    symm
    simp only [Bool.not_eq_false', List.all_eq_true]
    intro x hx
    simp only [bne_iff_ne, ne_eq]
    rintro rfl
    rw [(hasB_iff _ s).2 hx] at h
    cases h
theorem contains_any (s : ByteArray) (c : UInt8) (w : World) : Calls Tryz.prog 213 #[.string s, .string ⟨#[c]⟩] w fun e w' => e = .returned (.bool (hasB c s)) ∧ w = w' := by
  refine (Tryz.strings_Contains_one s c w).mono ?_
  rintro e w' ⟨rfl, rfl⟩
  exact ⟨rfl, rfl⟩
theorem okb_sign (s : ByteArray) : s.data.toList.all okb = (signv s && !hasB 47 s) := by
  rw [hasB_all, Bool.not_not, signv]
  induction s.data.toList with
  | nil => rfl
  | cons c l ih =>
    simp only [List.all_cons, ih]
    have : okb c = (signb c && (c != 47)) := by
      simp only [okb, signb]
      have h1 : decide (c.toNat ≠ 47) = (c != 47) := by
        by_cases h : c = 47
        · subst h; rfl
        · have h2 : c.toNat ≠ 47 := fun e => h (by apply UInt8.toNat_inj.1; simpa using e)
          have h3 : (c != 47) = true := by simpa using h
          rw [h3, decide_eq_true h2]
      rw [h1]
    rw [this]
    cases signb c <;> cases (c != 47) <;> simp
theorem partOk_impl (s : ByteArray) (w : World) :
    Calls Tryz.prog 187 #[.string s] w fun e w' => e = .returned (.bool (partOkv s)) ∧ w = w' := by
  by_cases d1 : (1 : Int) ≤ (s.size : Int) ∧ (s.size : Int) ≤ 60
  · have q0 : (1 : Int) ≤ (s.size : Int) := d1.1
    have q9 : (s.size : Int) ≤ 60 := d1.2
    by_cases e1 : s = dot1
    · have HB := Lib.hid (partOk_dot1 e1)
      have q1 := lit_eq (l := [46]) e1
      clear e1
      go_enter Tryz.func187, Tryz.ntmps187
      go_wp2
      go_ret
      exact ⟨ret_bool HB.out.symm, rfl⟩
    · have q1 := lit_ne (l := [46]) e1
      by_cases e2 : s = dot2
      · have HB := Lib.hid (partOk_dot2 e2)
        have q2 := lit_eq (l := [46, 46]) e2
        clear e1 e2
        go_enter Tryz.func187, Tryz.ntmps187
        go_wp2
        go_ret
        exact ⟨ret_bool HB.out.symm, rfl⟩
      · have q2 := lit_ne (l := [46, 46]) e2
        have HB : Hid (partOkv s = (signv s && !hasB 47 s)) := Lib.hid (by rw [← okb_sign]; simp [partOkv, e1, e2]; omega)
        have H1 := Lib.hid (fun w => visible_impl s w (by omega))
        have H2 := Lib.hid (contains_any s 47)
        generalize partOkv s = r at HB
        generalize signv s = r1 at HB H1
        generalize hasB 47 s = r2 at HB H2
        clear e1 e2 d1
        go_enter Tryz.func187, Tryz.ntmps187
        go_wp2_with fail
        refine (H1.out _).mono ?_
        rintro e _ ⟨rfl, rfl⟩
        cases r1 with
        | false =>
          go_wp2_with fail
          go_ret
          exact ⟨ret_bool (by rw [HB.out]; rfl), rfl⟩
        | true =>
          go_wp2_with fail
          refine (H2.out _).mono ?_
          rintro e _ ⟨rfl, rfl⟩
          go_wp2_with fail
          go_ret
          exact ⟨ret_bool (by rw [HB.out]; rfl), rfl⟩
  · have HB := Lib.hid (partOk_size (s := s) (by omega))
    by_cases q0 : (1 : Int) ≤ (s.size : Int)
    · have q9 : ¬ (s.size : Int) ≤ 60 := by omega
      clear d1
      go_enter Tryz.func187, Tryz.ntmps187
      go_wp2
      go_ret
      exact ⟨ret_bool HB.out.symm, rfl⟩
    · clear d1
      go_enter Tryz.func187, Tryz.ntmps187
      go_wp2
      go_ret
      exact ⟨ret_bool HB.out.symm, rfl⟩
end Go.Proofs.YtancidbbkoeokabGreatDoor

/- Contract of spec.PartOk, for every string, the world unchanged (impl.PartOk: Vis.t). -/
namespace Go.Proofs.YtancidbbkoeokabGreatDoor
open Go.ChangeShapes Go.WideShapes Go.ChangeAt Go.RowKit

theorem partOk_spec (s : ByteArray) (w : World) (hs : s.size ≤ 9223372036854775807) :
    Calls Tryz.prog 195 #[.string s] w fun e w' => e = .returned (.bool (partOkv s)) ∧ w = w' := by
  go_enter Tryz.func195, Tryz.ntmps195
  go_wp2
  go_loop [3] (fun u => ∃ (k : Nat), k ≤ s.size ∧ u = .int .i64 k ∧ OkTo s k) (fun u => s.size - (intOf u).toNat)
  case atStart => exact ⟨0, Nat.zero_le _, rfl, OkTo.start s⟩
  case round =>
    obtain ⟨k, hk, rfl, ho⟩ := hrel
    have HO := Lib.hid ho
    clear ho
    by_cases hlt : k < s.size
    · have hc := UInt8.toNat_lt s[k]
      by_cases d1 : (33 : Int) ≤ (s[k].toNat : Int) ∧ (s[k].toNat : Int) ≤ 126
      · have hi := inB_t d1
        by_cases d2 : (s[k].toNat : Int) = 47
        · have HB := Lib.hid (partOk_bad (okb_bad hlt (okb_f (.inr d2))))
          have hq : ((s[k].toNat : Int) == 47) = true := by simp [d2]
          clear d2
          go_wp2_with (go_at_call 100; refine (in_any _ _ _ _).mono ?_; rintro e w' ⟨rfl, rfl⟩)
          go_ret
          exact ⟨ret_bool HB.out.symm, rfl⟩
        · have HN := Lib.hid (HO.out.step hlt (okb_t d1.1 d1.2 d2))
          have hq : ((s[k].toNat : Int) == 47) = false := by simpa using d2
          clear d2
          go_wp2_with (go_at_call 100; refine (in_any _ _ _ _).mono ?_; rintro e w' ⟨rfl, rfl⟩)
          go_round
          case rel => exact ⟨k + 1, by omega, by go_num, HN.out⟩
          case measure => simp [intOf]; omega
      · have hi := inB_f d1
        have HB := Lib.hid (partOk_bad (okb_bad hlt (okb_f (.inl d1))))
        go_wp2_with (go_at_call 100; refine (in_any _ _ _ _).mono ?_; rintro e w' ⟨rfl, rfl⟩)
        go_ret
        exact ⟨ret_bool HB.out.symm, rfl⟩
    · obtain rfl : k = s.size := by omega
      have HA := Lib.hid HO.out.done
      by_cases d1 : (1 : Int) ≤ (s.size : Int) ∧ (s.size : Int) ≤ 60
      · have hi := inB_t d1
        by_cases e1 : s = dot1
        · have HB := Lib.hid (partOk_dot1 e1)
          have q1 := lit_eq (l := [46]) e1
          clear e1
          go_wp2_with (go_at_call 100; refine (in_any _ _ _ _).mono ?_; rintro e w' ⟨rfl, rfl⟩)
          go_ret
          exact ⟨ret_bool HB.out.symm, rfl⟩
        · have q1 := lit_ne (l := [46]) e1
          by_cases e2 : s = dot2
          · have HB := Lib.hid (partOk_dot2 e2)
            have q2 := lit_eq (l := [46, 46]) e2
            clear e1 e2
            go_wp2_with (go_at_call 100; refine (in_any _ _ _ _).mono ?_; rintro e w' ⟨rfl, rfl⟩)
            go_ret
            exact ⟨ret_bool HB.out.symm, rfl⟩
          · have q2 := lit_ne (l := [46, 46]) e2
            have HB := Lib.hid (partOk_good HA.out (by omega) e1 e2)
            clear e1 e2
            go_wp2_with (go_at_call 100; refine (in_any _ _ _ _).mono ?_; rintro e w' ⟨rfl, rfl⟩)
            go_ret
            exact ⟨ret_bool HB.out.symm, rfl⟩
      · have hi := inB_f d1
        have HB := Lib.hid (partOk_size (s := s) (by omega))
        go_wp2_with (go_at_call 100; refine (in_any _ _ _ _).mono ?_; rintro e w' ⟨rfl, rfl⟩)
        go_ret
        exact ⟨ret_bool HB.out.symm, rfl⟩

end Go.Proofs.YtancidbbkoeokabGreatDoor

/- Plain lemmas on a row of bytes that the call itself made: string(b) of it. -/
namespace Go.Proofs.YtancidbbkoeokabGreatDoor
open Go.ChangeShapes Go.WideShapes Go.ChangeAt Go.RowKit

def byteVals (l : List UInt8) : List Value := l.map fun c => .int .u8 ((c.toNat : Nat) : Int)
theorem byteVals_length (l : List UInt8) : (byteVals l).length = l.length := by simp [byteVals]
theorem byteVals_snoc (l : List UInt8) (c : UInt8) : byteVals l ++ [.int .u8 ((c.toNat : Nat) : Int)] = byteVals (l ++ [c]) := by simp [byteVals]
theorem Tryz.info5 : (Tryz.prog.info? 5).map (fun i => (i.zero, i.size, i.bytes)) = some (some (.int .u8 0), 1, 1) := by kernel_rfl

def OwnB (w : World) (base : Nat) (v : Value) (l : List UInt8) : Prop := w.ownsRow base 5 1 v l.length (byteVals l)

theorem OwnB.conv {w : World} {base : Nat} {v : Value} {l : List UInt8} (h : OwnB w base v l) :
    (convert 95 9 v).run Tryz.prog w = .ok (.string ⟨l.toArray⟩) w := by
  have h' := h
  obtain ⟨_, ⟨rfl, hn⟩ | ⟨g, cap, cur, rfl, _⟩⟩ := h'
  · have : l = [] := by simpa using hn
    subst this
    exact run_convert_bytes_nil w 95 5 Tryz.underlying95 Tryz.underlying5 0 0 9 Tryz.underlying9
  · refine run_convert_bytes_back (P := Tryz.prog) w 95 9 5 ⟨g, 0, none⟩ cap l Tryz.underlying95 Tryz.underlying5 Tryz.underlying9 ?_
    intro j hj
    exact World.ownsRow.cells h rfl j _ (by simp [byteVals, List.getElem?_eq_getElem hj])
theorem OwnB.lit {w : World} {base : Nat} (hb : base ≤ w.heap.size) : OwnB (w.alloc (.cells #[] 5)) base (.slice (some ⟨w.heap.size, 0, none⟩) 0 0) [] := by
  have h := World.ownsRow_lit (base := base) (e := 5) (size := 1) w #[] 0 hb (by simp) rfl
  exact h
end Go.Proofs.YtancidbbkoeokabGreatDoor

/- Contract of laws.markText: a text that its number alone decides. -/
namespace Go.Proofs.YtancidbbkoeokabGreatDoor
open Go.ChangeShapes Go.WideShapes Go.ChangeAt Go.RowKit

def mdig (k : Nat) : List UInt8 := if _h : k = 0 then [] else mdig (k / 10) ++ [UInt8.ofNat (48 + k % 10)]
termination_by k
decreasing_by omega
theorem mdig_zero : mdig 0 = [] := by rw [mdig]; simp
theorem mdig_pos {k : Nat} (h : 0 < k) : mdig k = mdig (k / 10) ++ [UInt8.ofNat (48 + k % 10)] := by rw [mdig]; simp [show k ≠ 0 from by omega]
theorem mdig_le (k : Nat) : (mdig k).length ≤ k := by
  induction k using Nat.strongRecOn with
  | ind k ih =>
    by_cases h : k = 0
    · subst h; simp [mdig_zero]
    · rw [mdig_pos (by omega)]
      have := ih (k / 10) (by omega)
      simp; omega
def markv (k : Nat) : ByteArray := ⟨#[109]⟩ ++ ⟨(mdig k).toArray⟩
def MarkFrom (k j : Nat) (o : ByteArray) : Prop := mdig j ++ o.data.toList = mdig k
theorem MarkFrom.size {k j : Nat} {o : ByteArray} (h : MarkFrom k j o) : o.size ≤ k := by
  have h1 := congrArg List.length h
  have h2 := mdig_le k
  simp at h1
  omega
theorem MarkFrom.step {k j : Nat} {o : ByteArray} (h : MarkFrom k j o) (hj : 0 < j) : MarkFrom k (j / 10) ((⟨#[UInt8.ofNat (48 + j % 10)]⟩ : ByteArray) ++ o) := by
  unfold MarkFrom at h ⊢
  rw [mdig_pos hj] at h
  rw [← h]
  simp
theorem mark_conv (w : World) (c : UInt8) :
    (convert 95 9 (.slice (some ⟨w.heap.size, 0, none⟩) 1 1)).run Tryz.prog (w.alloc (.cells #[.int .u8 ((c.toNat : Nat) : Int)] 5)) = .ok (.string ⟨#[c]⟩) (w.alloc (.cells #[.int .u8 ((c.toNat : Nat) : Int)] 5)) := by
  have h : OwnB (w.alloc (.cells #[.int .u8 ((c.toNat : Nat) : Int)] 5)) 0 (.slice (some ⟨w.heap.size, 0, none⟩) 1 1) [c] := World.ownsRow_lit w _ 1 (Nat.zero_le _) (by simp [maxLen]) rfl
  exact h.conv
theorem mdigit (j : Nat) : (((UInt8.ofNat (48 + j % 10)).toNat : Nat) : Int) = 48 + (j : Int) % 10 := by
  have : (UInt8.ofNat (48 + j % 10)).toNat = 48 + j % 10 := by simp; omega
  rw [this]; omega

theorem markText_any (k : Nat) (w : World) (h0 : 1 ≤ k) (h1 : k ≤ 134217728) :
    Calls Tryz.prog 29 #[.int .i64 k] w fun e w' => e = .returned (.string (markv k)) ∧ Below w.heap.size w w' := by
  go_enter Tryz.func29, Tryz.ntmps29
  go_wp2
  go_loopw [0, 3] (fun x v wr => ∃ (j : Nat) (o : ByteArray), j ≤ k ∧ x = .int .i64 j ∧ v = .string o ∧ MarkFrom k j o ∧ Below w.heap.size w wr) (fun x _ _ => (intOf x).toNat)
  case atStart => exact ⟨k, _, Nat.le_refl _, rfl, rfl, by simp [MarkFrom], Below.refl _ _⟩
  case round =>
    obtain ⟨j, o, hj, rfl, rfl, hm, hb⟩ := hrel
    have hos := hm.size
    have HM := Lib.hid hm
    have HB := Lib.hid hb
    have hsz := hb.size
    clear hm hb
    by_cases hlt : 0 < j
    · have hc := mark_conv wr (UInt8.ofNat (48 + j % 10))
      rw [mdigit] at hc
      go_wp2
      go_roundw
      case rel => exact ⟨j / 10, _, by omega, by go_num, rfl, (by have h := HM.out.step hlt; simpa using h), HB.out.alloc hsz _⟩
      case measure => simp [intOf]; omega
    · obtain rfl : j = 0 := by omega
      go_wp2
      go_ret
      refine ⟨ret_str ?_, HB.out⟩
      have h := HM.out
      unfold MarkFrom at h
      rw [mdig_zero] at h
      simp [markv, ← h]
end Go.Proofs.YtancidbbkoeokabGreatDoor

/- Contracts of laws.eqStringS, laws.markStringS, laws.heldStringS on rows of texts. -/
namespace Go.Proofs.YtancidbbkoeokabGreatDoor
open Go.ChangeShapes Go.WideShapes Go.ChangeAt Go.RowKit

/-- The n cells of block g are the texts R 0, R 1, ... -/
def RowF (w : World) (g n : Nat) (R : Nat → ByteArray) : Prop := ∀ i, i < n → w.cell? ⟨g, i, none⟩ = some (.string (R i))
theorem RowF.below {w w' : World} {g n B : Nat} {R : Nat → ByteArray} (h : RowF w g n R) (hb : Below B w w') (hg : g < B) : RowF w' g n R :=
  fun i hi => (hb.cell (p := ⟨g, i, none⟩) hg).trans (h i hi)
def OwnT (w : World) (base : Nat) (v : Value) (n : Nat) (xs : List Value) : Prop := w.ownsRow base 9 1 v n xs
theorem OwnT.below {w w' : World} {base g n cap B : Nat} {xs : List Value} (h : OwnT w base (.slice (some ⟨g, 0, none⟩) n cap) n xs) (hb : Below B w w') (hg : g < B) : OwnT w' base (.slice (some ⟨g, 0, none⟩) n cap) n xs := by
  refine ⟨h.1, ?_⟩
  rcases h.2 with ⟨h', _⟩ | ⟨g', cap', cur, h', hx, hgg, rest⟩
  · simp at h'
  · simp only [Value.slice.injEq, Option.some.injEq, Addr.mk.injEq, and_true, true_and] at h'
    obtain ⟨rfl, rfl⟩ := h'
    exact .inr ⟨g, cap, cur, rfl, hx, (hb.block g hg).trans hgg, rest⟩
theorem OwnT.cellv {w : World} {base g n cap : Nat} {xs : List Value} (h : OwnT w base (.slice (some ⟨g, 0, none⟩) n cap) n xs) (i : Nat) (hi : i < n) : w.cell? ⟨g, i, none⟩ = some (xs.getD i (.bool true)) := by
  have h1 := h.1
  rw [World.ownsRow.cellAt h i (by omega)]
  simp [List.getD, List.getElem?_eq_getElem (show i < xs.length by omega)]
theorem self_eq (a : ByteArray) : (a.toList == a.toList) = true := by simp
theorem bl_chain {w x w1 : World} (h1 : Below x.heap.size x w1) (os : x.os = w.os) (tape : x.tape = w.tape) (out : x.output = w.output) (hs : w.heap.size ≤ x.heap.size) (B : Nat) (hB : B ≤ x.heap.size) (hb : ∀ k, k < B → x.heap[k]? = w.heap[k]?) : Below B w w1 :=
  ⟨h1.os.trans os, h1.tape.trans tape, h1.output.trans out, Nat.le_trans hs h1.size, fun k hk => (h1.block k (Nat.lt_of_lt_of_le hk hB)).trans (hb k hk)⟩
theorem kept_cell {x w1 : World} {g k : Nat} {t : Value} (h1 : Below x.heap.size x w1) (hg : g < x.heap.size) (hc : x.cell? ⟨g, k, none⟩ = .some t) : w1.cell? ⟨g, k, none⟩ = .some t := (h1.cell (p := ⟨g, k, none⟩) hg).trans hc
def mk1 (i : Nat) : ByteArray := markv (i + 1)

/-- The first k texts are the marks. -/
def Marked (ys : List Value) (k : Nat) : Prop := ∀ i, i < k → ys[i]? = some (.string (mk1 i))
theorem Marked.step {ys : List Value} {k : Nat} (h : Marked ys k) (hk : k < ys.length) : Marked (ys.set k (.string (mk1 k))) (k + 1) := by
  intro i hi
  by_cases e : i = k
  · subst e; simp [hk]
  · rw [List.getElem?_set_ne (Ne.symm e)]; exact h i (by omega)
theorem Marked.row {w : World} {base g n cap : Nat} {ys : List Value} (h : Marked ys n) (ho : OwnT w base (.slice (some ⟨g, 0, none⟩) n cap) n ys) : RowF w g n mk1 :=
  fun i hi => (World.ownsRow.cellAt ho i (by omega)).trans (h i hi)

end Go.Proofs.YtancidbbkoeokabGreatDoor

/- Rows of texts that a call made itself: OwnL. -/
namespace Go.Proofs.YtancidbbkoeokabGreatDoor
open Go.ChangeShapes Go.WideShapes Go.ChangeAt Go.RowKit

def strVals (l : List ByteArray) : List Value := l.map Value.string
theorem strVals_snoc (l : List ByteArray) (x : ByteArray) : strVals l ++ [.string x] = strVals (l ++ [x]) := by simp [strVals]
theorem strVals_len (l : List ByteArray) : (strVals l).length = l.length := by simp [strVals]
theorem Tryz.info9 : (Tryz.prog.info? 9).map (fun i => (i.zero, i.size, i.bytes)) = some (some (.string ⟨#[]⟩), 1, 16) := by kernel_rfl
def rowOf (L : List ByteArray) (i : Nat) : ByteArray := L.getD i ⟨#[]⟩
theorem OwnT.rowF {w : World} {base g n cap : Nat} {L : List ByteArray} (h : OwnT w base (.slice (some ⟨g, 0, none⟩) n cap) n (strVals L)) : RowF w g n (rowOf L) := by
  intro i hi
  have h1 := h.1
  rw [World.ownsRow.cellAt h i (by omega)]
  have hl : i < L.length := by simp [strVals] at h1; omega
  simp [strVals, rowOf, List.getElem?_eq_getElem hl]

/-- A row of texts of the call's own that is not nil. -/
def OwnL (w : World) (base : Nat) (v : Value) (l : List ByteArray) : Prop := OwnT w base v l.length (strVals l) ∧ ∃ g cap, v = .slice (some ⟨g, 0, none⟩) l.length cap

theorem own_snoc {w1 : World} {base : Nat} {v' : Value} {D : List ByteArray} {x : ByteArray} (h : w1.ownsRow base 9 1 v' (D.length + 1) (strVals D ++ [.string x])) (hnil : ¬ v' = .slice none 0 0) : OwnL w1 base v' (D ++ [x]) := by
  rw [strVals_snoc, show D.length + 1 = (D ++ [x]).length from by simp] at h
  refine ⟨h, ?_⟩
  obtain ⟨_, ⟨rfl, _⟩ | ⟨g', cap', cur, rfl, _⟩⟩ := h
  · exact absurd rfl hnil
  · exact ⟨g', cap', rfl⟩

end Go.Proofs.YtancidbbkoeokabGreatDoor

/- Contract of spec.Parts. -/
namespace Go.Proofs.YtancidbbkoeokabGreatDoor
open Go.ChangeShapes Go.WideShapes Go.ChangeAt Go.RowKit

theorem slash_is {c : UInt8} (h : c = 47) : (((c.toNat : Nat) : Int) == 47) = true := by subst h; rfl
theorem slash_isnt {c : UInt8} (h : ¬ c = 47) : (((c.toNat : Nat) : Int) == 47) = false := by
  have : c.toNat ≠ 47 := fun e => h (UInt8.toNat_inj.1 (by simpa using e))
  simp; omega

theorem parts_spec (s : ByteArray) (w : World) (hs : s.size ≤ 4194304) :
    Calls Tryz.prog 194 #[.string s] w fun e w' => ∃ v, e = .returned v ∧ OwnL w' w.heap.size v (partsv s) ∧ Below w.heap.size w w' := by
  obtain ⟨i0, hi, hz0, hz1, hz2⟩ := info_parts Tryz.info9
  have HS := Lib.hid hs
  have hs2 : s.size ≤ 9223372036854775807 := by omega
  clear hs
  go_enter Tryz.func194, Tryz.ntmps194
  go_wp2
  go_loopw [3, 4, 5] (fun v f i wr => ∃ (D : List ByteArray) (b k : Nat), b ≤ k ∧ k ≤ s.size ∧ D.length ≤ k ∧ f = .int .i64 b ∧ i = .int .i64 k ∧ PartsFrom s D b k ∧ OwnL wr w.heap.size v D ∧ Below w.heap.size w wr) (fun _ _ i _ => s.size - (intOf i).toNat)
  case atStart => exact ⟨[], 0, 0, Nat.le_refl _, Nat.zero_le _, Nat.le_refl _, rfl, rfl, pf_start s, ⟨World.ownsRow_lit w #[] 0 (Nat.le_refl _) (by simp) rfl, _, _, rfl⟩, (Below.refl _ _).alloc (Nat.le_refl _) _⟩
  case round =>
    obtain ⟨D, b, k, hbk, hk, hD, rfl, rfl, hwf, ⟨hown, g, cap, rfl⟩, hb⟩ := hrel
    have HO := Lib.hid hown
    have HB := Lib.hid hb
    have HW := Lib.hid hwf
    have hsz := HB.out.size
    clear hown hb hwf
    by_cases hlt : k < s.size
    · by_cases hc : s[k] = 47
      · have hb47 := slash_is hc
        have HN := Lib.hid (pf_cut HW.out hlt hc)
        have hbs : b ≤ s.size := by omega
        clear hc
        have hks3 : k ≤ s.size := by omega
        go_wp2_with (at_builtin; refine wpList_append_own _ rfl _ _ 120 rfl w.heap.size 9 i0 (.string ⟨#[]⟩) 1 16 Tryz.underlying120 hi hz0 hz1 hz2 rfl (by decide) _ _ _ rfl (World.ownsRow.alloc HO.out _) ⟨wr.heap.size, 0, none⟩ 1 1 [.string (s.extract b k)] rfl rfl ?c1 ?c2 ?c3 ?c4 ?c5 ?_)
        case c1 => exact cell_one_new _ _ _
        case c2 => intro u hu; simp at hu; subst hu; rfl
        case c3 => have := HS.out; simp only [maxLen]; omega
        case c4 => have := HS.out; omega
        case c5 => simp; omega
        · intro v' w1 hown' hgrow hnil
          have hO : OwnL w1 w.heap.size v' (D ++ [s.extract b k]) := own_snoc hown' hnil
          have hBl : Below w.heap.size w w1 := (HB.out.alloc hsz _).grown hgrow (by simp; omega) (fun b hb => (World.ownsRow.lt HO.out b hb).1)
          clear hown' hgrow hnil
          have HO1 := Lib.hid hO
          have HB1 := Lib.hid hBl
          clear hO hBl
          go_wp2
          go_roundw
          case rel => exact ⟨D ++ [s.extract b k], k + 1, k + 1, Nat.le_refl _, by omega, by simp; omega, by go_num, by go_num, HN.out, HO1.out, HB1.out⟩
          case measure => simp [intOf]; omega
      · have hb47 := slash_isnt hc
        have HN := Lib.hid (pf_go HW.out hbk hlt hc)
        clear hc
        go_wp2
        go_roundw
        case rel => exact ⟨D, b, k + 1, by omega, by omega, by omega, rfl, by go_num, HN.out, ⟨HO.out, _, _, rfl⟩, HB.out⟩
        case measure => simp [intOf]; omega
    · obtain rfl : k = s.size := by omega
      have HE := Lib.hid (pf_end HW.out)
      go_wp2_with (at_builtin; refine wpList_append_own _ rfl _ _ 120 rfl w.heap.size 9 i0 (.string ⟨#[]⟩) 1 16 Tryz.underlying120 hi hz0 hz1 hz2 rfl (by decide) _ _ _ rfl (World.ownsRow.alloc HO.out _) ⟨wr.heap.size, 0, none⟩ 1 1 [.string (s.extract b s.size)] rfl rfl ?c1 ?c2 ?c3 ?c4 ?c5 ?_)
      case c1 => exact cell_one_new _ _ _
      case c2 => intro u hu; simp at hu; subst hu; rfl
      case c3 => have := HS.out; simp only [maxLen]; omega
      case c4 => have := HS.out; omega
      case c5 => simp; omega
      · intro v' w1 hown' hgrow hnil
        have hO : OwnL w1 w.heap.size v' (D ++ [s.extract b s.size]) := own_snoc hown' hnil
        have hBl : Below w.heap.size w w1 := (HB.out.alloc hsz _).grown hgrow (by simp; omega) (fun b hb => (World.ownsRow.lt HO.out b hb).1)
        clear hown' hgrow hnil
        rw [HE.out] at hO
        have HO1 := Lib.hid hO
        have HB1 := Lib.hid hBl
        clear hO hBl
        go_wp2
        go_ret
        exact ⟨_, rfl, HO1.out, HB1.out⟩

end Go.Proofs.YtancidbbkoeokabGreatDoor

/- Contracts of spec.PathOk and impl.PathOk. -/
namespace Go.Proofs.YtancidbbkoeokabGreatDoor
open Go.RowKit Go.Shelf

def pathOkv (s : ByteArray) : Bool := decide (s.size ≤ 200) && (partsv s).all partOkv
theorem pathOk_long {s : ByteArray} (h : ¬ s.size ≤ 200) : pathOkv s = false := by simp [pathOkv, h]
theorem pathOk_bad {s x : ByteArray} (h : x ∈ partsv s) (hx : partOkv x = false) : pathOkv s = false := by
  cases hp : pathOkv s with
  | false => rfl
  | true =>
    simp only [pathOkv, Bool.and_eq_true, List.all_eq_true] at hp
    rw [hp.2 x h] at hx; cases hx
theorem pathOk_good {s : ByteArray} (h : s.size ≤ 200) (hx : ∀ x ∈ partsv s, partOkv x = true) : pathOkv s = true := by
  simp only [pathOkv, Bool.and_eq_true, List.all_eq_true]
  exact ⟨by simpa using h, hx⟩
def AllTo (L : List ByteArray) (k : Nat) : Prop := ∀ j, j < k → partOkv (rowOf L j) = true
theorem AllTo.step {L : List ByteArray} {k : Nat} (h : AllTo L k) (hk : partOkv (rowOf L k) = true) : AllTo L (k + 1) := by
  intro j hj
  by_cases e : j = k
  · subst e; exact hk
  · exact h j (by omega)
theorem AllTo.all {L : List ByteArray} (h : AllTo L L.length) : ∀ x ∈ L, partOkv x = true := by
  intro x hx
  obtain ⟨i, hi, rfl⟩ := List.getElem_of_mem hx
  have := h i hi
  simpa [rowOf, List.getD, List.getElem?_eq_getElem hi] using this
theorem rowOf_mem {L : List ByteArray} {k : Nat} (h : k < L.length) : rowOf L k ∈ L := by
  simp [rowOf, List.getD, List.getElem?_eq_getElem h]

theorem pathOk_spec (s : ByteArray) (w : World) (hs : s.size ≤ 4194304) :
    Calls Tryz.prog 156 #[.string s] w fun e w' => e = .returned (.bool (pathOkv s)) ∧ Below w.heap.size w w' := by
  have H := Lib.hid (fun w => parts_spec s w hs)
  have HZ := Lib.hid (partsv_size s)
  have hl := partsv_le s
  have HB := Lib.hid (fun x => pathOk_bad (s := s) (x := x))
  have HG := Lib.hid (pathOk_good (s := s))
  have HL := Lib.hid (pathOk_long (s := s))
  generalize partsv s = L at H HZ HB HG hl
  generalize pathOkv s = b at HB HG HL
  generalize hn : L.length = n at hl
  have hn2 : (n : Int) ≤ 4194305 := by omega
  have HN := Lib.hid hn
  clear hn hl
  go_enter Tryz.func156, Tryz.ntmps156
  go_wp2_with fail
  refine (H.out _).mono ?_
  rintro e w1 ⟨v, rfl, ⟨ho1, g1, cap1, rfl⟩, hb1⟩
  have R1 := Lib.hid (OwnT.rowF ho1)
  have B1 := Lib.hid hb1
  rw [HN.out] at R1 ⊢
  clear ho1 hb1
  go_wp2_with fail
  go_loop [4] (fun u => ∃ (k : Nat), k ≤ n ∧ u = .int .i64 k ∧ AllTo L k) (fun u => n - (intOf u).toNat)
  case atStart => exact ⟨0, Nat.zero_le _, rfl, fun j h => by omega⟩
  case round =>
    obtain ⟨k, hk, rfl, ho⟩ := hrel
    have HO := Lib.hid ho
    clear ho
    by_cases hlt : k < n
    · have hlt2 : (k : Int) < (n : Int) := by omega
      have hc := R1.out k hlt
      have HM := Lib.hid (rowOf_mem (L := L) (k := k) (by rw [HN.out]; exact hlt))
      have HP := Lib.hid (fun w => partOk_spec (rowOf L k) w (by have := HZ.out _ HM.out; omega))
      have HS := Lib.hid (fun h => AllTo.step HO.out (k := k) h)
      have HBk := Lib.hid (fun h => HB.out _ HM.out h)
      clear HM HO
      generalize rowOf L k = x at hc HP HS HBk
      cases hx : partOkv x with
      | true =>
        have HS2 := Lib.hid (HS.out hx)
        rw [hx] at HP
        clear hx HS HBk
        go_wp2_with fail
        refine (HP.out _).mono ?_
        rintro e w' ⟨rfl, rfl⟩
        go_wp2_with fail
        go_round
        case rel => exact ⟨k + 1, by omega, by go_num, HS2.out⟩
        case measure => simp [intOf]; omega
      | false =>
        have HS2 := Lib.hid (HBk.out hx)
        rw [hx] at HP
        clear hx HS HBk
        go_wp2_with fail
        refine (HP.out _).mono ?_
        rintro e w' ⟨rfl, rfl⟩
        go_wp2_with fail
        go_ret
        exact ⟨ret_bool HS2.out.symm, B1.out⟩
    · obtain rfl : k = n := by omega
      by_cases h2 : (s.size : Int) ≤ 200
      · have HX := Lib.hid (HG.out (by omega) (by have := HO.out; rw [← HN.out] at this; exact this.all))
        go_wp2_with fail
        go_ret
        exact ⟨ret_bool HX.out.symm, B1.out⟩
      · have HX := Lib.hid (HL.out (by omega))
        go_wp2_with fail
        go_ret
        exact ⟨ret_bool HX.out.symm, B1.out⟩

attribute [local go_sem] Oper.semAt_some

set_option maxRecDepth 100000 in
set_option maxHeartbeats 2000000 in
theorem pathOk_impl (s : ByteArray) (w : World) (hs : s.size ≤ 9223372036854775806) :
    Calls Tryz.prog 142 #[.string s] w fun e w' => e = .returned (.bool (pathOkv s)) ∧ Below w.heap.size w w' := by
  refine (callsIn_wide (n := 4)).1 ?_
  have HS := Lib.hid hs
  by_cases hlen : (s.size : Int) ≤ 200
  · refine callsIn_of_wp_marks Tryz.func142 rfl trivial ?_ rfl
    simp only [Tryz.ntmps142, List.size_toArray, List.length_cons, List.length_nil, Nat.reduceAdd, Nat.reduceSub, Array.replicate_succ, Array.replicate_zero, List.push_toArray, List.append_toArray, List.nil_append, List.cons_append]
    gi_wp2_with fail
    refine ⟨trivial, (comps_make _ _ _).mono ?_⟩
    rintro e w' ⟨rfl, rfl⟩
    gi_wp2_with fail
    have b1 := Boxed.new w 4 (.bool false)
    have b2 := Boxed.new (w.alloc (.cells #[.bool false] 4)) 9 (.string s)
    rw [World.size_alloc] at b2
    have hB0 : Below w.heap.size w ((w.alloc (.cells #[.bool false] 4)).alloc (.cells #[.string s] 9)) := ((Below.refl _ w).alloc (Nat.le_refl _) _).alloc (by simp) _
    refine wpIn_rangeFunc_ownG rfl (by omega) (gf := 212) (lb := #[.pointer (some ⟨w.heap.size + 1, 0, none⟩)]) rfl trivial (enters_of Tryz.func212 (by kernel_rfl) rfl)
      (comps_stops _ (w.heap.size + 1) w.heap.size s _ HS.out (by simp) b2.cell) belowK_t (belowK_b (by simp; omega)) (Below.refl _ _) (fun _ => rfl)
      (fun pre W => ((∀ y ∈ pre, partOkv y = true) ∧ Boxed W w.heap.size 4 (.bool false)) ∧ Below w.heap.size w W)
      (fun c pre W => ((c = .ret ∧ ∃ y ∈ pre, partOkv y = false) ∧ Boxed W w.heap.size 4 (.bool false)) ∧ Below w.heap.size w W)
      (OwnFrom.and (OwnFrom.and (ownFrom_pure _ _) (Own.from (boxed_own _ _ (fun _ => .bool false)) _)) (ownFrom_below (Nat.le_refl _) (by simp; omega)))
      (fun c => OwnFrom.and (OwnFrom.and (ownFrom_pure _ _) (Own.from (boxed_own _ _ (fun _ => .bool false)) _)) (ownFrom_below (Nat.le_refl _) (by simp; omega)))
      ⟨⟨by simp, b1.alloc _⟩, hB0⟩
      (fun x => { tmps := #[.string s, undef, .pointer (some ⟨w.heap.size, 0, none⟩), .string x, .string s, .int .i64 s.size, .bool (decide ((200 : Int) < (s.size : Int))), .string s, .func (.func 212) #[] #[.pointer (some ⟨w.heap.size + 1, 0, none⟩)], .string x, undef, undef, undef], defers := [] }) ?assign ?body ?done ?stop
    case assign =>
      intro l x W K hK
      gi_wp2
      exact hK
    case body =>
      rintro l pre x W ⟨⟨hp, hbx⟩, hB⟩ hlt
      have hcr := hbx.cell
      have hfr := hbx.frozen
      have HBX := Lib.hid hbx
      clear hbx
      have HC := Lib.hid (fun w => CallsIn.inRound l ((callsIn_wide (n := 1)).2 (partOk_impl x w)))
      have HB := Lib.hid hB
      have HPre := Lib.hid hp
      clear hB hp
      cases hx : partOkv x with
      | true =>
        have HN : Hid (∀ y ∈ pre ++ [x], partOkv y = true) := Lib.hid (fun y hy => (List.mem_append.1 hy).elim (HPre.out y) (fun e => by simp at e; subst e; exact hx))
        rw [hx] at HC
        clear hx
        gi_wp2_with fail
        refine ⟨trivial, (HC.out _).mono ?_⟩
        rintro e w' ⟨rfl, rfl⟩
        gi_wp2_with fail
        exact ⟨KeepsFrom.refl _ _, Below.refl _ _, ⟨HN.out, HBX.out⟩, HB.out⟩
      | false =>
        have HN : Hid (∃ y ∈ pre ++ [x], partOkv y = false) := Lib.hid ⟨x, by simp, hx⟩
        rw [hx] at HC
        clear hx
        gi_wp2_with fail
        refine ⟨trivial, (HC.out _).mono ?_⟩
        rintro e w' ⟨rfl, rfl⟩
        gi_wp2_with fail
        exact ⟨(KeepsOthers.setCell _ _ _).from _, ⟨⟨rfl, HN.out⟩, HBX.out.set _⟩, HB.out.setCell (p := ⟨w.heap.size, 0, none⟩) (Nat.le_refl _) _⟩
    case done =>
      rintro D ys W hD rfl ⟨⟨hp, hbx⟩, hB⟩ hK
      have HP := Lib.hid (pathOk_good (by omega) hp)
      have hcr := hbx.cell
      have hfr := hbx.frozen
      have HBX := Lib.hid hbx
      have HB := Lib.hid hB
      have HK := Lib.hid hK
      clear hp hB hK hbx
      gi_wp2
      have hK' := (KeepsOthers.setCell W ⟨w.heap.size, 0, none⟩ (.bool true)).same D _ HK.out rfl
      refine ⟨by simp, .inl ⟨_, _, rfl, run_takeDeferred hK', ?_⟩⟩
      have hc5 := cell_kept (HBX.out.set (.bool true)).cell (grownBy_putObj' _ D (.deferred none)) (fun r e => by cases e; exact ⟨_, hK', rfl⟩)
      refine ⟨.bool true, ?_, ret_bool HP.out.symm, (HB.out.setCell (p := ⟨w.heap.size, 0, none⟩) (Nat.le_refl _) _).trans (belowK_b (w := w) (Nat.le_refl _) _ D _ _ (by simp at hD; omega) hK' rfl rfl)⟩
      simp [results, Tryz.f142, go_sem, hc5]
    case stop =>
      rintro D c pre W hD hpre ⟨⟨⟨rfl, y, hy, hyf⟩, hbx⟩, hB⟩ hK
      have HP := Lib.hid (pathOk_bad (hpre.subset hy) hyf)
      have HBX := Lib.hid hbx
      have HB := Lib.hid hB
      have HK := Lib.hid hK
      clear hB hK hbx hyf
      gi_wp2
      refine ⟨by simp, .inl ⟨_, _, rfl, run_takeDeferred HK.out, ?_⟩⟩
      have hc5 := cell_kept HBX.out.cell (grownBy_putObj' _ D (.deferred none)) (fun r e => by cases e; exact ⟨_, HK.out, rfl⟩)
      refine ⟨.bool false, ?_, ret_bool HP.out.symm, HB.out.trans (belowK_b (w := w) (Nat.le_refl _) W D _ _ (by simp at hD; omega) HK.out rfl rfl)⟩
      simp [results, Tryz.f142, go_sem, hc5]
  · have HB := Lib.hid (pathOk_long (s := s) (by omega))
    refine callsIn_of_wp_marks Tryz.func142 rfl trivial ?_ rfl
    simp only [Tryz.ntmps142, List.size_toArray, List.length_cons, List.length_nil, Nat.reduceAdd, Nat.reduceSub, Array.replicate_succ, Array.replicate_zero, List.push_toArray, List.append_toArray, List.nil_append, List.cons_append]
    gi_wp2
    have c1 := (Boxed.new w 4 (.bool false)).cell
    refine ⟨.bool false, by simp [results, Tryz.f142, go_sem], ret_bool HB.out.symm, (Below.refl _ w).alloc (Nat.le_refl _) _⟩
end Go.Proofs.YtancidbbkoeokabGreatDoor

/- Entries as they come in: a struct of ten fields, each of one cell. -/
namespace Go.Proofs.YtancidbbkoeokabGreatDoor
open Go.ChangeShapes Go.WideShapes Go.ChangeAt Go.RowKit Go.Deep

/-- An entry. -/
structure Ent where
  kind : Int
  path : ByteArray
  link : ByteArray
  mode : Int
  uid : Int
  gid : Int
  time : Int
  user : ByteArray
  group : ByteArray
  body : ByteArray
deriving DecidableEq
/-- Its cells, in their order. -/
def Ent.cells (e : Ent) : List Value := [.int .i64 e.kind, .string e.path, .string e.link, .int .i64 e.mode, .int .i64 e.uid, .int .i64 e.gid, .int .i64 e.time, .string e.user, .string e.group, .string e.body]
def I64 (n : Int) : Prop := -9223372036854775808 ≤ n ∧ n ≤ 9223372036854775807
/-- Its numbers are ints, its texts fit a memory. -/
def Ent.wf (e : Ent) : Prop := (I64 e.kind ∧ I64 e.mode ∧ I64 e.uid ∧ I64 e.gid ∧ I64 e.time) ∧ e.path.size ≤ maxLen ∧ e.link.size ≤ maxLen ∧ e.user.size ≤ maxLen ∧ e.group.size ≤ maxLen ∧ e.body.size ≤ maxLen
theorem i64_of {n : Int} (h : (Lit.int .i64 n).wf = true) : I64 n := bounds_i64 h
section
variable {H : Type} {enc : TypeId × Value → H} {P : Program} {w : World} {base : Nat} {spare : Nat → Bool} {held : Bool}
theorem rec_cell {t T : TypeId} {fs : Array Field} {fuel : Nat} {cs : List Value} {x : DataW H × List MemPlace} (he : P.underlying t = some (.struct fs)) (hone : oneCellFields P fs = true) (hC : P.cellsOf t = fs.size)
    (h : DataW.trod enc P w base spare held fuel t cs = some x) (j : Nat) (hT : (fs.toList.map (·.type))[j]? = some T) : ∃ c n y, cs[j]? = some c ∧ DataW.trod enc P w base spare held n T [c] = some y := by
  obtain ⟨xs, n, _, _, hl, hlen, hf⟩ := DataW.trod_struct he h
  rw [List.getElem?_map] at hT
  cases hfj : fs.toList[j]? with
  | none => rw [hfj] at hT; cases hT
  | some f =>
    rw [hfj] at hT
    obtain rfl : f.type = T := by simpa using hT
    have hj : fs[j]? = some f := by simpa using hfj
    obtain ⟨ho, hk⟩ := hone_of hone j f hj
    have hlt : j < fs.size := (Array.getElem?_eq_some_iff.1 hj).1
    have h1 := hf j f hj
    rw [ho, hk] at h1
    have hjl : j < cs.length := by omega
    have hone' : (cs.drop j).take 1 = [cs[j]] := by
      rw [List.drop_eq_getElem_cons hjl]
      rfl
    rw [hone'] at h1
    have hx : j < xs.length := by omega
    rw [List.getElem?_eq_getElem hx] at h1
    exact ⟨cs[j], n, xs[j], List.getElem?_eq_getElem hjl, h1⟩
theorem ent_open {t ti ts : TypeId} {fs : Array Field} {fuel : Nat} {cs : List Value} {x : DataW H × List MemPlace} (he : P.underlying t = some (.struct fs)) (hone : oneCellFields P fs = true) (hC : P.cellsOf t = fs.size)
    (hty : fs.toList.map (·.type) = [ti, ts, ts, ti, ti, ti, ti, ts, ts, ts]) (hi : P.underlying ti = some (.int .i64)) (hs : P.underlying ts = some .string)
    (h : DataW.trod enc P w base spare held fuel t cs = some x) : ∃ e : Ent, cs = e.cells ∧ e.wf := by
  have hlen : cs.length = 10 := by
    obtain ⟨xs, n, _, _, hl, _, _⟩ := DataW.trod_struct he h
    have := congrArg List.length hty
    simp at this
    omega
  have I : ∀ j : Nat, (fs.toList.map (·.type))[j]? = some ti → ∃ n, cs[j]? = some (Value.int .i64 n) ∧ I64 n := by
    intro j hj
    obtain ⟨c, n, y, hc, hy⟩ := rec_cell he hone hC h j hj
    obtain ⟨m, hm, _, hw⟩ := DataW.trod_int hi hy
    obtain rfl : c = Value.int .i64 m := by simpa using hm
    exact ⟨m, hc, i64_of hw⟩
  have S : ∀ j : Nat, (fs.toList.map (·.type))[j]? = some ts → ∃ s : ByteArray, cs[j]? = some (Value.string s) ∧ s.size ≤ maxLen := by
    intro j hj
    obtain ⟨c, n, y, hc, hy⟩ := rec_cell he hone hC h j hj
    obtain ⟨s, hm, _, hw⟩ := DataW.trod_string hs hy
    obtain rfl : c = Value.string s := by simpa using hm
    exact ⟨s, hc, hw⟩
  rw [hty] at I S
  obtain ⟨k, c0, w0⟩ := I 0 rfl
  obtain ⟨p, c1, w1⟩ := S 1 rfl
  obtain ⟨l, c2, w2⟩ := S 2 rfl
  obtain ⟨m, c3, w3⟩ := I 3 rfl
  obtain ⟨u, c4, w4⟩ := I 4 rfl
  obtain ⟨g, c5, w5⟩ := I 5 rfl
  obtain ⟨t', c6, w6⟩ := I 6 rfl
  obtain ⟨us, c7, w7⟩ := S 7 rfl
  obtain ⟨gr, c8, w8⟩ := S 8 rfl
  obtain ⟨b, c9, w9⟩ := S 9 rfl
  refine ⟨⟨k, p, l, m, u, g, t', us, gr, b⟩, ?_, ⟨w0, w3, w4, w5, w6⟩, w1, w2, w7, w8, w9⟩
  match cs, hlen with
  | [d0, d1, d2, d3, d4, d5, d6, d7, d8, d9], _ =>
    simp only [List.getElem?_cons_zero, List.getElem?_cons_succ, Option.some.injEq] at c0 c1 c2 c3 c4 c5 c6 c7 c8 c9
    rw [c0, c1, c2, c3, c4, c5, c6, c7, c8, c9]
    rfl
end
end Go.Proofs.YtancidbbkoeokabGreatDoor

/- Contracts of laws.toEntry and laws.szEntry. -/
namespace Go.Proofs.YtancidbbkoeokabGreatDoor
open Go.ChangeShapes Go.WideShapes Go.ChangeAt Go.RowKit

theorem toEntry_any (k : Int) (p l : ByteArray) (m u g t : Int) (us gr b : ByteArray) (w : World) :
    Calls Tryz.prog 39 #[.agg #[.int .i64 k, .string p, .string l, .int .i64 m, .int .i64 u, .int .i64 g, .int .i64 t, .string us, .string gr, .string b]] w fun e w' => e = .returned (.agg #[.int .i64 k, .string p, .string l, .int .i64 m, .int .i64 u, .int .i64 g, .int .i64 t, .string us, .string gr, .string b]) ∧ Below w.heap.size w w' := by
  go_enter Tryz.func39, Tryz.ntmps39
  go_wp2_with fail
  exact bodyPost_ret (v := .agg #[.int .i64 k, .string p, .string l, .int .i64 m, .int .i64 u, .int .i64 g, .int .i64 t, .string us, .string gr, .string b]) (by simp [results, Tryz.results39, go_sem]) rfl ⟨rfl, (((Below.refl _ w).alloc (Nat.le_refl _) _).alloc (by simp) _).alloc (by simp; omega) _⟩

/-- What is left of a bound behind an entry's texts, or -1. -/
def szv (p l us gr b : ByteArray) (left : Int) : Int := if left < (p.size : Int) + l.size + us.size + gr.size + b.size then -1 else left - ((p.size : Int) + l.size + us.size + gr.size + b.size)
theorem szEntry_any (k : Int) (p l : ByteArray) (m u g t : Int) (us gr b : ByteArray) (left : Int) (w : World) (hp : p.size ≤ maxLen) (hl : l.size ≤ maxLen) (hus : us.size ≤ maxLen) (hgr : gr.size ≤ maxLen) (hb : b.size ≤ maxLen) (h0 : 0 ≤ left) (h1 : left ≤ 1048576) :
    Calls Tryz.prog 37 #[.agg #[.int .i64 k, .string p, .string l, .int .i64 m, .int .i64 u, .int .i64 g, .int .i64 t, .string us, .string gr, .string b], .int .i64 left] w fun e w' => e = .returned (.int .i64 (szv p l us gr b left)) ∧ Below w.heap.size w w' := by
  simp only [maxLen] at hp hl hus hgr hb
  have HE : Hid (szv p l us gr b left = if left < (p.size : Int) + l.size + us.size + gr.size + b.size then -1 else left - ((p.size : Int) + l.size + us.size + gr.size + b.size)) := Lib.hid rfl
  generalize szv p l us gr b left = r at HE
  by_cases q1 : left - (p.size : Int) < 0
  · have HF : Hid (r = -1) := Lib.hid (by rw [HE.out, if_pos (by omega)])
    clear HE
    go_enter Tryz.func37, Tryz.ntmps37
    go_wp2_with fail
    go_ret
    exact ⟨ret_int HF.out.symm, (Below.refl _ w).alloc (Nat.le_refl _) _⟩
  · by_cases q2 : left - (p.size : Int) - l.size < 0
    · have HF : Hid (r = -1) := Lib.hid (by rw [HE.out, if_pos (by omega)])
      clear HE
      go_enter Tryz.func37, Tryz.ntmps37
      go_wp2_with fail
      go_ret
      exact ⟨ret_int HF.out.symm, (Below.refl _ w).alloc (Nat.le_refl _) _⟩
    · by_cases q3 : left - (p.size : Int) - l.size - us.size < 0
      · have HF : Hid (r = -1) := Lib.hid (by rw [HE.out, if_pos (by omega)])
        clear HE
        go_enter Tryz.func37, Tryz.ntmps37
        go_wp2_with fail
        go_ret
        exact ⟨ret_int HF.out.symm, (Below.refl _ w).alloc (Nat.le_refl _) _⟩
      · by_cases q4 : left - (p.size : Int) - l.size - us.size - gr.size < 0
        · have HF : Hid (r = -1) := Lib.hid (by rw [HE.out, if_pos (by omega)])
          clear HE
          go_enter Tryz.func37, Tryz.ntmps37
          go_wp2_with fail
          go_ret
          exact ⟨ret_int HF.out.symm, (Below.refl _ w).alloc (Nat.le_refl _) _⟩
        · by_cases q5 : left - (p.size : Int) - l.size - us.size - gr.size - b.size < 0
          · have HF : Hid (r = -1) := Lib.hid (by rw [HE.out, if_pos (by omega)])
            clear HE
            go_enter Tryz.func37, Tryz.ntmps37
            go_wp2_with fail
            go_ret
            exact ⟨ret_int HF.out.symm, (Below.refl _ w).alloc (Nat.le_refl _) _⟩
          · have HF : Hid (r = left - (p.size : Int) - l.size - us.size - gr.size - b.size) := Lib.hid (by rw [HE.out, if_neg (by omega)]; omega)
            clear HE
            go_enter Tryz.func37, Tryz.ntmps37
            go_wp2_with fail
            go_ret
            exact ⟨ret_int HF.out.symm, (Below.refl _ w).alloc (Nat.le_refl _) _⟩
end Go.Proofs.YtancidbbkoeokabGreatDoor

/- Entries in memory: ten cells in a row. -/
namespace Go.Proofs.YtancidbbkoeokabGreatDoor
open Go.ChangeShapes Go.WideShapes Go.ChangeAt Go.RowKit

def EntAt (w : World) (b o : Nat) (e : Ent) : Prop := ∀ i, i < 10 → w.cell? ⟨b, o + i, none⟩ = e.cells[i]?
theorem EntAt.below {w w' : World} {b o B : Nat} {e : Ent} (h : EntAt w b o e) (hb : Below B w w') (hg : b < B) : EntAt w' b o e := fun i hi => (hb.cell (p := ⟨b, o + i, none⟩) hg).trans (h i hi)
theorem EntAt.zero {w : World} {b : Nat} {e : Ent} (h : EntAt w b 0 e) : w.cell? ⟨b, 0, none⟩ = some (.int .i64 e.kind) ∧ w.cell? ⟨b, 1, none⟩ = some (.string e.path) ∧ w.cell? ⟨b, 2, none⟩ = some (.string e.link) ∧ w.cell? ⟨b, 3, none⟩ = some (.int .i64 e.mode) ∧ w.cell? ⟨b, 4, none⟩ = some (.int .i64 e.uid) ∧ w.cell? ⟨b, 5, none⟩ = some (.int .i64 e.gid) ∧ w.cell? ⟨b, 6, none⟩ = some (.int .i64 e.time) ∧ w.cell? ⟨b, 7, none⟩ = some (.string e.user) ∧ w.cell? ⟨b, 8, none⟩ = some (.string e.group) ∧ w.cell? ⟨b, 9, none⟩ = some (.string e.body) :=
  ⟨h 0 (by omega), h 1 (by omega), h 2 (by omega), h 3 (by omega), h 4 (by omega), h 5 (by omega), h 6 (by omega), h 7 (by omega), h 8 (by omega), h 9 (by omega)⟩
theorem btE {x y z : World} (h : Below x.heap.size x y) (k : Below y.heap.size y z) : Below x.heap.size x z := h.trans (k.mono h.size)
theorem EntAt.new (w : World) (e : Ent) (t : TypeId) : EntAt (w.alloc (.cells e.cells.toArray t)) w.heap.size 0 e := fun i _ => by
  rw [World.cell?_alloc_at _ _ _ _ rfl]
  simp
/-- Two entries laid behind one another, and what a call keeps of them. -/
theorem two_new {w w1 : World} {e1 e2 : Ent} {t1 t2 : TypeId} (h : Below ((w.alloc (.cells e1.cells.toArray t1)).alloc (.cells e2.cells.toArray t2)).heap.size ((w.alloc (.cells e1.cells.toArray t1)).alloc (.cells e2.cells.toArray t2)) w1) :
    EntAt w1 w.heap.size 0 e1 ∧ EntAt w1 (w.heap.size + 1) 0 e2 ∧ Below w.heap.size w w1 ∧ w.heap.size + 2 ≤ w1.heap.size := by
  have hs : ((w.alloc (.cells e1.cells.toArray t1)).alloc (.cells e2.cells.toArray t2)).heap.size = w.heap.size + 2 := by simp
  have n1 : EntAt ((w.alloc (.cells e1.cells.toArray t1)).alloc (.cells e2.cells.toArray t2)) w.heap.size 0 e1 := fun i hi => by
    rw [World.cell?_alloc_past _ _ _ (by simp)]
    exact EntAt.new w e1 t1 i hi
  have n2 : EntAt ((w.alloc (.cells e1.cells.toArray t1)).alloc (.cells e2.cells.toArray t2)) (w.heap.size + 1) 0 e2 := by
    have := EntAt.new (w.alloc (.cells e1.cells.toArray t1)) e2 t2
    simpa using this
  exact ⟨n1.below h (by omega), n2.below h (by omega), (((Below.refl _ w).alloc (Nat.le_refl _) _).alloc (by simp) _).trans (h.mono (by omega)), by have := h.size; omega⟩
/-- One entry laid. -/
theorem one_new {w w1 : World} {e1 : Ent} {t1 : TypeId} (h : Below (w.alloc (.cells e1.cells.toArray t1)).heap.size (w.alloc (.cells e1.cells.toArray t1)) w1) :
    EntAt w1 w.heap.size 0 e1 ∧ Below w.heap.size w w1 ∧ w.heap.size + 1 ≤ w1.heap.size := by
  have hs : (w.alloc (.cells e1.cells.toArray t1)).heap.size = w.heap.size + 1 := by simp
  exact ⟨(EntAt.new w e1 t1).below h (by omega), ((Below.refl _ w).alloc (Nat.le_refl _) _).trans (h.mono (by omega)), by have := h.size; omega⟩
end Go.Proofs.YtancidbbkoeokabGreatDoor

/- A slice of entries as it comes in. -/
namespace Go.Proofs.YtancidbbkoeokabGreatDoor
open Go.ChangeShapes Go.WideShapes Go.ChangeAt Go.RowKit Go.Deep

/-- What a walk is told of a slice of entries that came in: it is nil, or it leads to a row of cap entries. -/
def IsRowE (w : World) (a : Option Addr) (len cap : Nat) (es : List Ent) : Prop :=
  (a = none ∧ len = 0 ∧ cap = 0 ∧ es = []) ∨
  ∃ x, a = some x ∧ len ≤ cap ∧ cap ≤ maxLen ∧ es.length = cap ∧ ∀ i, (h : i < es.length) → (∀ j, j < 10 → w.cell? (x.add (i * 10 + j)) = es[i].cells[j]?) ∧ es[i].wf
section
variable {H : Type} {enc : TypeId × Value → H} {P : Program} {w : World} {base : Nat} {held : Bool}
theorem ents_open {t el ti ts : TypeId} {fs : Array Field} {fuel : Nat} {a : Option Addr} {len cap : Nat} {x : DataW H × List MemPlace} (ht : P.underlying t = some (.slice el)) (he : P.underlying el = some (.struct fs)) (hone : oneCellFields P fs = true) (hC : P.cellsOf el = fs.size)
    (hty : fs.toList.map (·.type) = [ti, ts, ts, ti, ti, ti, ti, ts, ts, ts]) (hi : P.underlying ti = some (.int .i64)) (hs : P.underlying ts = some .string)
    (h : DataW.trod enc P w base (fun _ => true) held fuel t [.slice a len cap] = some x) : ∃ es, IsRowE w a len cap es := by
  have hten : fs.size = 10 := by
    have := congrArg List.length hty
    simpa using this
  rcases open_slice ht h with ⟨hcs, _⟩ | ⟨y, l, c, m, n, D, Pl, hcs, _, hl, hm, hmm, _, hel⟩
  · simp at hcs
    obtain ⟨rfl, rfl, rfl⟩ := hcs
    exact ⟨[], .inl ⟨rfl, rfl, rfl, rfl⟩⟩
  · simp at hcs
    obtain ⟨rfl, rfl, rfl⟩ := hcs
    simp at hmm
    subst hmm
    have hex : ∀ i : Nat, ∃ e : Ent, i < m → (∀ j, j < 10 → w.cell? (y.add (i * 10 + j)) = e.cells[j]?) ∧ e.wf := by
      intro i
      by_cases him : i < m
      · obtain ⟨cs', hc, ht'⟩ := hel i him
        obtain ⟨e, rfl, hw⟩ := ent_open he hone hC hty hi hs ht'
        obtain ⟨_, _, hat⟩ := World.cells?_some hc
        rw [hC, hten] at hat
        refine ⟨e, fun _ => ⟨fun j hj => ?_, hw⟩⟩
        rw [← Go.Deep.add_add]
        exact hat j hj
      · exact ⟨⟨0, ⟨#[]⟩, ⟨#[]⟩, 0, 0, 0, 0, ⟨#[]⟩, ⟨#[]⟩, ⟨#[]⟩⟩, fun h => absurd h him⟩
    refine ⟨(List.range m).map fun i => Classical.choose (hex i), .inr ⟨y, rfl, hl, hm, by simp, fun i hi => ?_⟩⟩
    have hi' : i < m := by simpa using hi
    have := Classical.choose_spec (hex i) hi'
    simpa using this
end
end Go.Proofs.YtancidbbkoeokabGreatDoor

/- Contract of laws.toEntryS. -/
namespace Go.Proofs.YtancidbbkoeokabGreatDoor
open Go.ChangeShapes Go.WideShapes Go.ChangeAt Go.RowKit Go.Deep

theorem Tryz.infoE : (Tryz.prog.info? 44).map (fun i => (i.zero, i.size, i.bytes)) = some (some (.agg #[.int .i64 0, .string ⟨#[]⟩, .string ⟨#[]⟩, .int .i64 0, .int .i64 0, .int .i64 0, .int .i64 0, .string ⟨#[]⟩, .string ⟨#[]⟩, .string ⟨#[]⟩]), 10, 120) := by kernel_rfl
/-- The ten cells of an entry, as a load of it asks for them. -/
theorem ten_at {w : World} {x : Addr} {n : Nat} {e : Ent} (h : ∀ j, j < 10 → w.cell? (x.add (n + j)) = e.cells[j]?) : w.cell? (x.add n) = some (.int .i64 e.kind) ∧ w.cell? ⟨(x.add n).block, (x.add n).off + 1, none⟩ = some (.string e.path) ∧ w.cell? ⟨(x.add n).block, (x.add n).off + 2, none⟩ = some (.string e.link) ∧ w.cell? ⟨(x.add n).block, (x.add n).off + 3, none⟩ = some (.int .i64 e.mode) ∧ w.cell? ⟨(x.add n).block, (x.add n).off + 4, none⟩ = some (.int .i64 e.uid) ∧ w.cell? ⟨(x.add n).block, (x.add n).off + 5, none⟩ = some (.int .i64 e.gid) ∧ w.cell? ⟨(x.add n).block, (x.add n).off + 6, none⟩ = some (.int .i64 e.time) ∧ w.cell? ⟨(x.add n).block, (x.add n).off + 7, none⟩ = some (.string e.user) ∧ w.cell? ⟨(x.add n).block, (x.add n).off + 8, none⟩ = some (.string e.group) ∧ w.cell? ⟨(x.add n).block, (x.add n).off + 9, none⟩ = some (.string e.body) := by
  refine ⟨h 0 (by omega), ?_, ?_, ?_, ?_, ?_, ?_, ?_, ?_, ?_⟩
  · exact (congrArg w.cell? (add_add x n 1)).trans (h 1 (by omega))
  · exact (congrArg w.cell? (add_add x n 2)).trans (h 2 (by omega))
  · exact (congrArg w.cell? (add_add x n 3)).trans (h 3 (by omega))
  · exact (congrArg w.cell? (add_add x n 4)).trans (h 4 (by omega))
  · exact (congrArg w.cell? (add_add x n 5)).trans (h 5 (by omega))
  · exact (congrArg w.cell? (add_add x n 6)).trans (h 6 (by omega))
  · exact (congrArg w.cell? (add_add x n 7)).trans (h 7 (by omega))
  · exact (congrArg w.cell? (add_add x n 8)).trans (h 8 (by omega))
  · exact (congrArg w.cell? (add_add x n 9)).trans (h 9 (by omega))
def entD : Ent := ⟨0, ⟨#[]⟩, ⟨#[]⟩, 0, 0, 0, 0, ⟨#[]⟩, ⟨#[]⟩, ⟨#[]⟩⟩
def set10 (ys : List Value) (o : Nat) (e : Ent) : List Value := (((((((((ys.set o (.int .i64 e.kind)).set (o + 1) (.string e.path)).set (o + 2) (.string e.link)).set (o + 3) (.int .i64 e.mode)).set (o + 4) (.int .i64 e.uid)).set (o + 5) (.int .i64 e.gid)).set (o + 6) (.int .i64 e.time)).set (o + 7) (.string e.user)).set (o + 8) (.string e.group)).set (o + 9) (.string e.body)
/-- The first n entries of a row stand in its cells. -/
def FillE (ys : List Value) (n : Nat) (E : Nat → Ent) : Prop := ∀ k, k < n → ∀ j, j < 10 → ys[k * 10 + j]? = (E k).cells[j]?
theorem set10_in (ys : List Value) (o : Nat) (e : Ent) (h : o + 10 ≤ ys.length) (j : Nat) (hj : j < 10) : (set10 ys o e)[o + j]? = e.cells[j]? := by
  match j, hj with
  | 0, _ => simp [set10, Ent.cells, List.getElem?_set]; try omega
  | 1, _ => simp [set10, Ent.cells, List.getElem?_set]; try omega
  | 2, _ => simp [set10, Ent.cells, List.getElem?_set]; try omega
  | 3, _ => simp [set10, Ent.cells, List.getElem?_set]; try omega
  | 4, _ => simp [set10, Ent.cells, List.getElem?_set]; try omega
  | 5, _ => simp [set10, Ent.cells, List.getElem?_set]; try omega
  | 6, _ => simp [set10, Ent.cells, List.getElem?_set]; try omega
  | 7, _ => simp [set10, Ent.cells, List.getElem?_set]; try omega
  | 8, _ => simp [set10, Ent.cells, List.getElem?_set]; try omega
  | 9, _ => simp [set10, Ent.cells, List.getElem?_set]; try omega
theorem set10_out (ys : List Value) (o : Nat) (e : Ent) (m : Nat) (hm : m < o) : (set10 ys o e)[m]? = ys[m]? := by
  simp only [set10]
  rw [List.getElem?_set_ne (by omega), List.getElem?_set_ne (by omega), List.getElem?_set_ne (by omega), List.getElem?_set_ne (by omega), List.getElem?_set_ne (by omega), List.getElem?_set_ne (by omega), List.getElem?_set_ne (by omega), List.getElem?_set_ne (by omega), List.getElem?_set_ne (by omega), List.getElem?_set_ne (by omega)]
theorem FillE.step {ys : List Value} {i : Nat} {E : Nat → Ent} (h : FillE ys i E) (hl : i * 10 + 10 ≤ ys.length) : FillE (set10 ys (i * 10) (E i)) (i + 1) E := by
  intro k hk j hj
  by_cases e : k = i
  · subst e; exact set10_in ys _ _ hl j hj
  · rw [set10_out _ _ _ _ (by omega)]; exact h k (by omega) j hj
def setEnt (w : World) (g o : Nat) (e : Ent) : World := ((((((((((w).setCell ⟨g, o, none⟩ (.int .i64 e.kind)).setCell ⟨g, o + 1, none⟩ (.string e.path)).setCell ⟨g, o + 2, none⟩ (.string e.link)).setCell ⟨g, o + 3, none⟩ (.int .i64 e.mode)).setCell ⟨g, o + 4, none⟩ (.int .i64 e.uid)).setCell ⟨g, o + 5, none⟩ (.int .i64 e.gid)).setCell ⟨g, o + 6, none⟩ (.int .i64 e.time)).setCell ⟨g, o + 7, none⟩ (.string e.user)).setCell ⟨g, o + 8, none⟩ (.string e.group)).setCell ⟨g, o + 9, none⟩ (.string e.body)
theorem own_setEnt {w : World} {base g n : Nat} {ty : TypeId} {ys : List Value} (h : w.ownsRow base ty 10 (.slice (some ⟨g, 0, none⟩) n n) n ys) (o : Nat) (e : Ent) : (setEnt w g o e).ownsRow base ty 10 (.slice (some ⟨g, 0, none⟩) n n) n (set10 ys o e) :=
  (World.ownsRow.stored (World.ownsRow.stored (World.ownsRow.stored (World.ownsRow.stored (World.ownsRow.stored (World.ownsRow.stored (World.ownsRow.stored (World.ownsRow.stored (World.ownsRow.stored (World.ownsRow.stored h o _).1 (o + 1) _).1 (o + 2) _).1 (o + 3) _).1 (o + 4) _).1 (o + 5) _).1 (o + 6) _).1 (o + 7) _).1 (o + 8) _).1 (o + 9) _).1
theorem below_setEnt {w w' : World} {B g : Nat} (h : Below B w w') (hg : B ≤ g) (o : Nat) (e : Ent) : Below B w (setEnt w' g o e) :=
  ((((((((((h).setCell (p := ⟨g, o, none⟩) hg _).setCell (p := ⟨g, o + 1, none⟩) hg _).setCell (p := ⟨g, o + 2, none⟩) hg _).setCell (p := ⟨g, o + 3, none⟩) hg _).setCell (p := ⟨g, o + 4, none⟩) hg _).setCell (p := ⟨g, o + 5, none⟩) hg _).setCell (p := ⟨g, o + 6, none⟩) hg _).setCell (p := ⟨g, o + 7, none⟩) hg _).setCell (p := ⟨g, o + 8, none⟩) hg _).setCell (p := ⟨g, o + 9, none⟩) hg _
theorem own_cell {w : World} {base g n : Nat} {e : TypeId} {ys : List Value} (h : w.ownsRow base e 10 (.slice (some ⟨g, 0, none⟩) n n) n ys) {i : Nat} (hi : i < n) (j : Nat) (hj : j < 10) : ∃ y, w.cell? ⟨g, i * 10 + j, none⟩ = some y := by
  rcases h.2 with ⟨h', _⟩ | ⟨g', cap', cur, h', _, hg, _, _, hcs, _⟩
  · simp at h'
  · simp only [Value.slice.injEq, Option.some.injEq, Addr.mk.injEq, and_true, true_and] at h'
    obtain ⟨rfl, rfl⟩ := h'
    have hlt : i * 10 + j < cur.size := by omega
    exact ⟨cur[i * 10 + j], by simp [World.cell?, hg, Array.getElem?_eq_getElem hlt]⟩
theorem cell_blk {w : World} {a : Addr} {v : Value} (h : w.cell? a = some v) : a.block < w.heap.size := by
  by_cases hb : a.block < w.heap.size
  · exact hb
  · exfalso
    unfold World.cell? at h
    rw [Array.getElem?_eq_none (by omega)] at h
    cases a.spot <;> simp_all
theorem toEntryS_some (x : Addr) (len cap : Nat) (es : List Ent) (w : World) (hR : IsRowE w (some x) len cap es) (hlen : len ≤ 1048576) :
    Calls Tryz.prog 18 #[.slice (some x) len cap] w fun e w' => ∃ ys, e = .returned (.slice (some ⟨w.heap.size, 0, none⟩) len len) ∧ w'.ownsRow w.heap.size 44 10 (.slice (some ⟨w.heap.size, 0, none⟩) len len) len ys ∧ FillE ys len (fun i => es.getD i entD) ∧ Below w.heap.size w w' := by
  have HE : Hid (∀ i, i < len → ∀ j, j < 10 → w.cell? (x.add (i * 10 + j)) = ((fun i => es.getD i entD) i).cells[j]? ∧ (x.add (i * 10 + j)).block < w.heap.size) := Lib.hid (by
    rcases hR with ⟨h, _⟩ | ⟨y, hy, hl, _, hn, hc⟩
    · cases h
    · obtain rfl : x = y := by simpa using hy
      intro i hi
      have hi' : i < es.length := by omega
      show ∀ j, j < 10 → w.cell? (x.add (i * 10 + j)) = (es.getD i entD).cells[j]? ∧ _
      rw [show es.getD i entD = es[i] by simp [List.getD, List.getElem?_eq_getElem hi']]
      refine fun j hj => ⟨(hc i hi').1 j hj, ?_⟩
      have h1 := (hc i hi').1 j hj
      have hsome : ∃ v, w.cell? (x.add (i * 10 + j)) = some v := by
        rw [h1]
        exact ⟨_, List.getElem?_eq_getElem (by show j < 10; exact hj)⟩
      obtain ⟨v, hv⟩ := hsome
      exact cell_blk hv)
  clear hR
  generalize (fun i => es.getD i entD) = E at *
  obtain ⟨i0, hi0, hz0, hz1, hz2⟩ := info_parts Tryz.infoE
  go_enter Tryz.func18, Tryz.ntmps18
  go_wp2_with (at_make; refine wpList_make_full _ rfl _ _ 22 rfl w.heap.size 44 i0 _ 10 Tryz.underlying22 hi0 hz0 hz1 .i64 .i64 (len : Int) (len : Int) len rfl rfl rfl rfl (by rw [hz2]; omega) (by simp only [maxLen]; omega) (Nat.le_refl _) ?_)
  intro w0 hown0 hg0
  have O0 := Lib.hid hown0
  have B0 : Hid (Below w.heap.size w w0) := Lib.hid ((Below.refl _ _).grown hg0 (Nat.le_refl _) (fun b hb => by cases hb))
  clear hown0 hg0
  go_wp2_with fail
  go_loopw [4] (fun u wr => ∃ (i : Nat) (ys : List Value), u = .int .i64 i ∧ i ≤ len ∧ wr.ownsRow w.heap.size 44 10 (.slice (some ⟨w.heap.size, 0, none⟩) len len) len ys ∧ FillE ys i E ∧ Below w.heap.size w wr) (fun u _ => len - (intOf u).toNat)
  case atStart => exact ⟨0, _, rfl, Nat.zero_le _, O0.out, fun k hk => by omega, B0.out⟩
  case round =>
    obtain ⟨i, ys, rfl, hi, ho, hf, hb⟩ := hrel
    have HF := Lib.hid hf
    have HO := Lib.hid ho
    have HB := Lib.hid hb
    clear ho hb hf O0 B0
    by_cases hlt : i < len
    · have hlt2 : (i : Int) < (len : Int) := by omega
      have he := HE.out i hlt
      have HS := Lib.hid (HF.out.step (by rw [HO.out.1]; omega))
      have hsz := HO.out.1
      clear HF
      generalize E i = e at he HS
      have c0 := ten_at (fun j hj => (HB.out.cell (he j hj).2).trans (he j hj).1)
      obtain ⟨c0, c1, c2, c3, c4, c5, c6, c7, c8, c9⟩ := c0
      clear he
      obtain ⟨k, p, l, m, u, g, t, us, gr, b⟩ := e
      go_wp2_with fail
      refine (toEntry_any _ _ _ _ _ _ _ _ _ _ _).mono ?_
      rintro e w2 ⟨rfl, hb2⟩
      have HO2 := Lib.hid (World.ownsRow.kept HO.out (w' := w2) (row := none) ⟨hb2.os, hb2.tape, hb2.output, hb2.size, fun k hk _ => hb2.block k hk⟩ (.inr (by simp [Value.ownBlock])))
      have HB2 := Lib.hid (HB.out.trans (hb2.mono HB.out.size))
      clear hb2 HO HB c0 c1 c2 c3 c4 c5 c6 c7 c8 c9
      have f0 := World.ownsRow.frozenAt HO2.out (i * 10)
      have f1 := World.ownsRow.frozenAt HO2.out (i * 10 + 1)
      have f2 := World.ownsRow.frozenAt HO2.out (i * 10 + 2)
      have f3 := World.ownsRow.frozenAt HO2.out (i * 10 + 3)
      have f4 := World.ownsRow.frozenAt HO2.out (i * 10 + 4)
      have f5 := World.ownsRow.frozenAt HO2.out (i * 10 + 5)
      have f6 := World.ownsRow.frozenAt HO2.out (i * 10 + 6)
      have f7 := World.ownsRow.frozenAt HO2.out (i * 10 + 7)
      have f8 := World.ownsRow.frozenAt HO2.out (i * 10 + 8)
      have f9 := World.ownsRow.frozenAt HO2.out (i * 10 + 9)
      obtain ⟨y0, d0⟩ := own_cell HO2.out hlt 0 (by omega)
      rw [Nat.add_zero] at d0
      obtain ⟨y1, d1⟩ := own_cell HO2.out hlt 1 (by omega)
      obtain ⟨y2, d2⟩ := own_cell HO2.out hlt 2 (by omega)
      obtain ⟨y3, d3⟩ := own_cell HO2.out hlt 3 (by omega)
      obtain ⟨y4, d4⟩ := own_cell HO2.out hlt 4 (by omega)
      obtain ⟨y5, d5⟩ := own_cell HO2.out hlt 5 (by omega)
      obtain ⟨y6, d6⟩ := own_cell HO2.out hlt 6 (by omega)
      obtain ⟨y7, d7⟩ := own_cell HO2.out hlt 7 (by omega)
      obtain ⟨y8, d8⟩ := own_cell HO2.out hlt 8 (by omega)
      obtain ⟨y9, d9⟩ := own_cell HO2.out hlt 9 (by omega)
      go_wp2_with fail
      go_roundw
      case rel => exact ⟨i + 1, _, by go_num, by omega, own_setEnt HO2.out (i * 10) ⟨k, p, l, m, u, g, t, us, gr, b⟩, HS.out, below_setEnt HB2.out (Nat.le_refl _) (i * 10) ⟨k, p, l, m, u, g, t, us, gr, b⟩⟩
      case measure => simp [intOf]; omega
    · obtain rfl : i = len := by omega
      have hlt2 : ¬ (i : Int) < (i : Int) := by omega
      go_wp2_with fail
      go_ret
      exact ⟨rfl, ys, HO.out, HF.out, HB.out⟩
theorem toEntryS_nil (w : World) :
    Calls Tryz.prog 18 #[.slice none 0 0] w fun e w' => ∃ ys, e = .returned (.slice (some ⟨w.heap.size, 0, none⟩) 0 0) ∧ w'.ownsRow w.heap.size 44 10 (.slice (some ⟨w.heap.size, 0, none⟩) 0 0) 0 ys ∧ Below w.heap.size w w' := by
  obtain ⟨i0, hi0, hz0, hz1, hz2⟩ := info_parts Tryz.infoE
  go_enter Tryz.func18, Tryz.ntmps18
  go_wp2_with (at_make; refine wpList_make_full _ rfl _ _ 22 rfl w.heap.size 44 i0 _ 10 Tryz.underlying22 hi0 hz0 hz1 .i64 .i64 0 0 0 rfl rfl rfl rfl (by omega) (Nat.zero_le _) (Nat.le_refl _) ?_)
  intro w0 hown0 hg0
  have O0 := Lib.hid hown0
  have B0 : Hid (Below w.heap.size w w0) := Lib.hid ((Below.refl _ _).grown hg0 (Nat.le_refl _) (fun b hb => by cases hb))
  clear hown0 hg0
  go_wp2_with fail
  go_loopw [4] (fun u wr => u = .int .i64 0 ∧ wr = w0) (fun _ _ => 0)
  case atStart => exact ⟨rfl, rfl⟩
  case round =>
    obtain ⟨rfl, rfl⟩ := hrel
    go_wp2_with fail
    go_ret
    exact ⟨_, rfl, O0.out, B0.out⟩
/-- Every slice of entries that came in, copied. -/
theorem toEntryS_any (a : Option Addr) (len cap : Nat) (es : List Ent) (w : World) (hR : IsRowE w a len cap es) (hlen : len ≤ 1048576) :
    Calls Tryz.prog 18 #[.slice a len cap] w fun e w' => ∃ ys, e = .returned (.slice (some ⟨w.heap.size, 0, none⟩) len len) ∧ w'.ownsRow w.heap.size 44 10 (.slice (some ⟨w.heap.size, 0, none⟩) len len) len ys ∧ FillE ys len (fun i => es.getD i entD) ∧ Below w.heap.size w w' := by
  cases a with
  | some x => exact toEntryS_some x len cap es w hR hlen
  | none =>
    rcases hR with ⟨_, rfl, rfl, rfl⟩ | ⟨y, hy, _⟩
    · refine (toEntryS_nil w).mono ?_
      rintro e w' ⟨ys, rfl, ho, hb⟩
      exact ⟨ys, rfl, ho, fun k hk => by omega, hb⟩
    · cases hy
end Go.Proofs.YtancidbbkoeokabGreatDoor

/- Contract of laws.szEntryS. -/
namespace Go.Proofs.YtancidbbkoeokabGreatDoor
open Go.ChangeShapes Go.WideShapes Go.ChangeAt Go.RowKit Go.Deep

/-- The letters of an entry's texts. -/
def esz (e : Ent) : Nat := e.path.size + e.link.size + e.user.size + e.group.size + e.body.size
def totE (E : Nat → Ent) : Nat → Nat
  | 0 => 0
  | n + 1 => totE E n + esz (E n)
theorem szv_esz (k : Int) (p l : ByteArray) (m u g t : Int) (us gr b : ByteArray) (left : Int) : szv p l us gr b left = if left < (esz ⟨k, p, l, m, u, g, t, us, gr, b⟩ : Int) then -1 else left - (esz ⟨k, p, l, m, u, g, t, us, gr, b⟩ : Int) := by
  have : (esz ⟨k, p, l, m, u, g, t, us, gr, b⟩ : Int) = (p.size : Int) + l.size + us.size + gr.size + b.size := by simp [esz]
  rw [this]; rfl
/-- What is left of a bound behind a slice of entries: less than none, or each entry and each letter counted. -/
def SzS (E : Nat → Ent) (len : Nat) (left : Int) (w : World) (e : Ending) (w' : World) : Prop :=
  (∃ r : Int, e = .returned (.int .i64 r) ∧ (r = -1 ∨ 0 ≤ r ∧ (len : Int) + totE E len + r = left)) ∧ Below w.heap.size w w'
set_option maxHeartbeats 1600000 in
theorem szEntryS_some (x : Addr) (len cap : Nat) (es : List Ent) (left : Int) (w : World) (hR : IsRowE w (some x) len cap es) (h0 : 0 ≤ left) (h1 : left ≤ 1048576) :
    Calls Tryz.prog 16 #[.slice (some x) len cap, .int .i64 left] w (SzS (fun i => es.getD i entD) len left w) := by
  have hmx : (len : Int) ≤ 9223372036854775807 := by
    rcases hR with ⟨h, _⟩ | ⟨y, _, hl, hm, _⟩
    · cases h
    · simp only [maxLen] at hm; omega
  have HE : Hid (∀ i, i < len → (∀ j, j < 10 → w.cell? (x.add (i * 10 + j)) = ((fun i => es.getD i entD) i).cells[j]? ∧ (x.add (i * 10 + j)).block < w.heap.size) ∧ ((fun i => es.getD i entD) i).wf) := Lib.hid (by
    rcases hR with ⟨h, _⟩ | ⟨y, hy, hl, _, hn, hc⟩
    · cases h
    · obtain rfl : x = y := by simpa using hy
      intro i hi
      have hi' : i < es.length := by omega
      show (∀ j, j < 10 → w.cell? (x.add (i * 10 + j)) = (es.getD i entD).cells[j]? ∧ _) ∧ (es.getD i entD).wf
      rw [show es.getD i entD = es[i] by simp [List.getD, List.getElem?_eq_getElem hi']]
      refine ⟨fun j hj => ⟨(hc i hi').1 j hj, ?_⟩, (hc i hi').2⟩
      have h1 := (hc i hi').1 j hj
      have hsome : ∃ v, w.cell? (x.add (i * 10 + j)) = some v := by
        rw [h1]
        exact ⟨_, List.getElem?_eq_getElem (by show j < 10; exact hj)⟩
      obtain ⟨v, hv⟩ := hsome
      exact cell_blk hv)
  clear hR
  generalize (fun i => es.getD i entD) = E at *
  by_cases hneg : left - (len : Int) < 0
  · go_enter Tryz.func16, Tryz.ntmps16
    go_wp2_with fail
    go_ret
    exact ⟨⟨-1, rfl, .inl rfl⟩, Below.refl _ _⟩
  · go_enter Tryz.func16, Tryz.ntmps16
    go_wp2_with fail
    go_loopw [1, 5] (fun v u wr => ∃ (i : Nat) (l : Int), v = .int .i64 l ∧ u = .int .i64 i ∧ i ≤ len ∧ 0 ≤ l ∧ (len : Int) + totE E i + l = left ∧ Below w.heap.size w wr) (fun _ u _ => len - (intOf u).toNat)
    case atStart => exact ⟨0, left - len, rfl, rfl, Nat.zero_le _, by omega, by simp only [totE]; omega, Below.refl _ _⟩
    case round =>
      obtain ⟨i, l, rfl, rfl, hi, hl, ht, hb⟩ := hrel
      have HB := Lib.hid hb
      have HT := Lib.hid ht
      have hll : l ≤ 1048576 := by omega
      clear hb ht
      by_cases hlt : i < len
      · have hlt2 : (i : Int) < (len : Int) := by omega
        obtain ⟨he, hw⟩ := HE.out i hlt
        have c0 := ten_at (fun j hj => (HB.out.cell (he j hj).2).trans (he j hj).1)
        have HN : Hid (totE E (i + 1) = totE E i + esz (E i)) := Lib.hid rfl
        generalize E i = e at he hw c0 HN
        obtain ⟨c0, c1, c2, c3, c4, c5, c6, c7, c8, c9⟩ := c0
        clear he
        obtain ⟨k, p, lk, m, u, g, t, us, gr, b⟩ := e
        have HZ := Lib.hid (szv_esz k p lk m u g t us gr b l)
        have HC := Lib.hid (fun w => szEntry_any k p lk m u g t us gr b l w hw.2.1 hw.2.2.1 hw.2.2.2.1 hw.2.2.2.2.1 hw.2.2.2.2.2 hl hll)
        generalize szv p lk us gr b l = r at HZ HC
        clear hw
        go_wp2_with fail
        refine (HC.out _).mono ?_
        rintro e w2 ⟨rfl, hb2⟩
        have HB2 := Lib.hid (HB.out.trans (hb2.mono HB.out.size))
        clear hb2 HB HC
        by_cases hr : r < 0
        · go_wp2_with fail
          go_ret
          exact ⟨⟨-1, rfl, .inl rfl⟩, HB2.out⟩
        · have HF : Hid (r = l - (esz ⟨k, p, lk, m, u, g, t, us, gr, b⟩ : Int)) := Lib.hid (by
            have h := HZ.out
            split at h
            · omega
            · exact h)
          go_wp2_with fail
          go_roundw
          case rel => exact ⟨i + 1, r, rfl, by go_num, by omega, by omega, by have h2 := HF.out; have h3 := HN.out; have h4 := HT.out; rw [h3]; omega, HB2.out⟩
          case measure => simp [intOf]; omega
      · obtain rfl : i = len := by omega
        have hlt2 : ¬ (i : Int) < (i : Int) := by omega
        go_wp2_with fail
        go_ret
        exact ⟨⟨l, rfl, .inr ⟨hl, HT.out⟩⟩, HB.out⟩
theorem szEntryS_nil (left : Int) (w : World) (h0 : 0 ≤ left) (h1 : left ≤ 1048576) :
    Calls Tryz.prog 16 #[.slice none 0 0, .int .i64 left] w fun e w' => e = .returned (.int .i64 left) ∧ Below w.heap.size w w' := by
  go_enter Tryz.func16, Tryz.ntmps16
  go_wp2_with fail
  go_loopw [1, 5] (fun v u wr => v = .int .i64 left ∧ u = .int .i64 0 ∧ wr = w) (fun _ _ _ => 0)
  case atStart => exact ⟨rfl, rfl, rfl⟩
  case round =>
    obtain ⟨rfl, rfl, rfl⟩ := hrel
    go_wp2_with fail
    go_ret
    exact ⟨rfl, Below.refl _ _⟩
/-- Every slice of entries. -/
theorem szEntryS_any (a : Option Addr) (len cap : Nat) (es : List Ent) (left : Int) (w : World) (hR : IsRowE w a len cap es) (h0 : 0 ≤ left) (h1 : left ≤ 1048576) :
    Calls Tryz.prog 16 #[.slice a len cap, .int .i64 left] w (SzS (fun i => es.getD i entD) len left w) := by
  cases a with
  | some x => exact szEntryS_some x len cap es left w hR h0 h1
  | none =>
    rcases hR with ⟨_, rfl, rfl, rfl⟩ | ⟨y, hy, _⟩
    · refine (szEntryS_nil left w h0 h1).mono ?_
      rintro e w' ⟨rfl, hb⟩
      exact ⟨⟨left, rfl, .inr ⟨h0, by simp [totE]⟩⟩, hb⟩
    · cases hy
end Go.Proofs.YtancidbbkoeokabGreatDoor
