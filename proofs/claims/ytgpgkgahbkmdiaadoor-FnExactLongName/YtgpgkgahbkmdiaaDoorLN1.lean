/- Texts joined: Cut, Fill, HeadMath, PutBig, Num, Back, NumZ, PutF, EntO, HdO, HeadTextI, PutHeadI, Pad, BodyK, LongMath, RegInv, HeadL, LongI, LongN, LongNameLaw. -/
import Derived.Test.YtgpgkgahbkmdiaaDoorCom
import Derived.Test.YtgpgkgahbkmdiaaDoorShelf
import Derived.Test.YtgpgkgahbkmdiaaDoorClone
import Derived.WalkSmall
import Derived.IntWalk
import Derived.Test.YtgpgkgahbkmdiaaDoorOwn
import Derived.Lib.Repeat
import Derived.Test.YtgpgkgahbkmdiaaDoorPutOH
import Derived.Test.YtgpgkgahbkmdiaaDoorHeadSum
import Derived.Test.YtgpgkgahbkmdiaaDoorFits
import Derived.Test.YtgpgkgahbkmdiaaDoorIn
import Derived.Test.YtgpgkgahbkmdiaaDoorDig
import Derived.Test.YtgpgkgahbkmdiaaDoorEntAt
import Derived.Laws.ResultCell
import Derived.Laws.Rows
import Derived.Laws.Tables
import Derived.Deep.MidRow
import Derived.Orders
import Derived.Below
import Derived.WalkKit
/- Contracts of spec.Cut, impl.Cut and the law laws.FnExactCut: the bytes before the first NUL. -/
namespace Go.Proofs.YtgpgkgahbkmdiaaDoor
open Go.ChangeShapes Go.WideShapes Go.ChangeAt Go.RowKit

def nulFree (l : List UInt8) : List UInt8 := l.takeWhile (· != 0)
def cutv (s : ByteArray) : ByteArray := ⟨(nulFree s.data.toList).toArray⟩
def Nz (l : List UInt8) : Prop := ∀ c ∈ l, c ≠ 0

theorem nz_snoc {l : List UInt8} {c : UInt8} (h : Nz l) (hc : c ≠ 0) : Nz (l ++ [c]) := by
  intro d hd
  rcases List.mem_append.1 hd with hd | hd
  · exact h d hd
  · simp at hd; exact hd ▸ hc
theorem nulFree_append {a b : List UInt8} (h : Nz a) : nulFree (a ++ b) = a ++ nulFree b :=
  List.takeWhile_append_of_pos (by intro c hc; simpa using h c hc)
theorem nulFree_self {a : List UInt8} (h : Nz a) : nulFree a = a := by
  have := nulFree_append (a := a) (b := []) h
  simpa [nulFree] using this
theorem nulFree_at (l : List UInt8) (k : Nat) (hk : k < l.length) (h : Nz (l.take k)) (h0 : l[k] = 0) : nulFree l = l.take k := by
  have e : l = l.take k ++ (l[k] :: l.drop (k + 1)) := by simp
  have h1 : nulFree (l.take k ++ (l[k] :: l.drop (k + 1))) = l.take k := by
    rw [nulFree_append h, h0]; simp [nulFree]
  rw [← e] at h1
  exact h1
theorem nulFree_index (l : List UInt8) : (Lib.indexByte l 0 = -1 → nulFree l = l) ∧ (0 ≤ Lib.indexByte l 0 → nulFree l = l.take (Lib.indexByte l 0).toNat ∧ Lib.indexByte l 0 < l.length) := by
  induction l with
  | nil => simp [Lib.indexByte, nulFree]
  | cons c l ih =>
    by_cases hc : c = 0
    · subst hc; simp [Lib.indexByte, nulFree]
    · have hn : nulFree (c :: l) = c :: nulFree l := by simp [nulFree, hc]
      have hi : Lib.indexByte (c :: l) 0 = if Lib.indexByte l 0 == -1 then -1 else Lib.indexByte l 0 + 1 := by simp [Lib.indexByte, hc]
      have hge := Lib.indexByte_ge l 0
      rw [hn, hi]
      by_cases hm : Lib.indexByte l 0 = -1
      · simp [hm, ih.1 hm]
      · obtain ⟨h1, h2⟩ := ih.2 (by omega)
        have hb : (Lib.indexByte l 0 == -1) = false := by simp [hm]
        rw [hb]
        have e : (Lib.indexByte l 0 + 1).toNat = (Lib.indexByte l 0).toNat + 1 := by omega
        simp [e, h1]
        omega

/-- strings.Cut at a NUL: what stands before it. -/
def CutPost (s : ByteArray) (w : World) (e : Ending) (w' : World) : Prop := ∃ r f, e = .returned (.tuple #[.string (cutv s), .string r, .bool f]) ∧ ∃ n, w' = w.drewN n

theorem lcut_any (s : ByteArray) (w : World) (hs : s.size ≤ 1099511627776) :
    Calls Tryd.prog 80 #[.string s, .string ⟨#[0]⟩] w (CutPost s w) := by
  have hi := nulFree_index s.data.toList
  have hge := Lib.indexByte_ge s.data.toList 0
  have hsz : s.data.toList.length = s.size := by simp
  by_cases hm : Lib.indexByte s.data.toList 0 = -1
  · have H1 := Lib.hid (hi.1 hm)
    have HM := Lib.hid hm
    have hlt : decide (0 ≤ Lib.indexByte s.data.toList 0) = false := by simp [hm]
    have hneg : Lib.indexByte s.data.toList 0 < 0 := by omega
    clear hi hm
    go_enter Tryd.func80, Tryd.ntmps80
    go_wp2_with (go_at_call 89; refine (Tryd.stringslite_Index_one _ _ _).mono ?_; rintro e w' ⟨rfl, rfl⟩)
    go_ret3
    refine ⟨⟨#[]⟩, false, ?_, 0, rfl⟩
    rw [show cutv s = s from ba_ext (by simp [cutv, H1.out])]
    rfl
  · obtain ⟨h1, h2⟩ := hi.2 (by omega)
    obtain ⟨k, hk⟩ := Int.eq_ofNat_of_zero_le (show 0 ≤ Lib.indexByte s.data.toList 0 by omega)
    rw [hk] at h1 h2
    simp only [Int.toNat_natCast] at h1
    have hks : k < s.size := by omega
    have hks1 : (k : Int) + 1 ≤ (s.size : Int) := by omega
    have e1 : IntKind.i64.wrap ((k : Int) + 1) = (k : Int) + 1 := IntWalk.i64_in _ (by omega)
    have e2 : (0 : Int) ≤ (k : Int) + 1 := by omega
    have e3 : ((k : Int) + 1).toNat = k + 1 := by omega
    have hks2 : (k : Int) ≤ (s.size : Int) := by omega
    have hks3 : k ≤ s.size := by omega
    have hks4 : k + 1 ≤ s.size := by omega
    have H1 := Lib.hid h1
    have hc := fun w => Tryd.stringslite_Index_one s 0 w
    rw [hk] at hc
    have HC := Lib.hid hc
    clear h1 h2 hi hm hge hk hc hsz
    go_enter Tryd.func80, Tryd.ntmps80
    go_wp2_with (go_at_call 89; refine (HC.out _).mono ?_; rintro e w' ⟨rfl, rfl⟩)
    go_quiet (fail)
    go_wp2
    go_ret3
    refine ⟨s.extract (k + 1) s.size, true, ?_, nq, rfl⟩
    rw [show cutv s = s.extract 0 k from ba_ext (by rw [Lib.extract_data]; simp [cutv, H1.out])]
    rfl

theorem scut_any (s : ByteArray) (w : World) (hs : s.size ≤ 1099511627776) :
    Calls Tryd.prog 70 #[.string s, .string ⟨#[0]⟩] w (CutPost s w) := by
  go_enter Tryd.func70, Tryd.ntmps70
  go_wp2_with (go_at_call 80; refine (lcut_any _ _ hs).mono ?_; rintro e w' ⟨r, f, rfl, n, rfl⟩)
  go_ret3
  exact ⟨r, f, rfl, n, rfl⟩

theorem cutv_le (s : ByteArray) : (cutv s).size ≤ s.size := by
  have h : (nulFree s.data.toList).length ≤ s.data.toList.length := by
    have := List.takeWhile_prefix (l := s.data.toList) (· != 0)
    exact this.length_le
  have e : (cutv s).size = (nulFree s.data.toList).length := by simp [cutv, ByteArray.size]
  rw [e]; simpa using h

end Go.Proofs.YtgpgkgahbkmdiaaDoor

/- Contracts of spec.l01Nuls, spec.Fill, impl.Fill and the law laws.FnExactFill. -/
namespace Go.Proofs.YtgpgkgahbkmdiaaDoor
open Go.ChangeShapes Go.WideShapes Go.ChangeAt Go.RowKit

def nuls (n : Nat) : List UInt8 := List.replicate n 0
theorem nuls_succ (n : Nat) : nuls n ++ [0] = nuls (n + 1) := by simp [nuls, List.replicate_succ']
theorem nuls_len (n : Nat) : (nuls n).length = n := by simp [nuls]
def nulv (n : Nat) : ByteArray := ⟨(nuls n).toArray⟩

theorem nuls_spec (n : Int) (w : World) (hn : n ≤ 1024) :
    Calls Tryd.prog 31 #[.int .i64 n] w fun e w' => e = .returned (.string (nulv n.toNat)) ∧ Below w.heap.size w w' := by
  obtain ⟨i0, hi, hz0, hz1, hz2⟩ := info_parts Tryd.info5
  go_enter Tryd.func31, Tryd.ntmps31
  go_wp2
  go_loopw [3, 4] (fun v i wr => ∃ k : Nat, k ≤ n.toNat ∧ i = .int .i64 k ∧ OwnB wr w.heap.size v (nuls k) ∧ Below w.heap.size w wr) (fun _ i _ => n.toNat - (intOf i).toNat)
  case atStart => exact ⟨0, Nat.zero_le _, rfl, OwnB.lit (Nat.le_refl _), (Below.refl _ _).alloc (Nat.le_refl _) _⟩
  case round =>
    obtain ⟨k, hk, rfl, hown, hb⟩ := hrel
    have HO := Lib.hid hown
    have HB := Lib.hid hb
    clear hown hb
    by_cases hlt : (k : Int) < n
    · have hsz := HB.out.size
      go_wp2_with (at_builtin; refine wpList_append_own _ rfl _ _ 56 rfl w.heap.size 5 i0 (.int .u8 0) 1 1 Tryd.underlying56 hi hz0 hz1 hz2 rfl (by decide) _ _ _ rfl (HO.out.alloc _) ⟨wr.heap.size, 0, none⟩ 1 1 [.int .u8 0] rfl rfl ?c1 ?c2 ?c3 ?c4 ?c5 ?_)
      case c1 =>
        intro j u hj
        match j, hj with
        | 0, hj => simp at hj; subst hj; simp [Addr.add]
      case c2 => intro u hu; simp at hu; subst hu; rfl
      case c3 => simp only [nuls_len, maxLen]; omega
      case c4 => simp only [nuls_len]; omega
      case c5 => simp; omega
      · intro v' w1 hown' hgrow _
        have hO : OwnB w1 w.heap.size v' (nuls (k + 1)) := by
          have e : byteVals (nuls k) ++ [.int .u8 0] = byteVals (nuls (k + 1)) := by rw [← nuls_succ, ← byteVals_snoc]; rfl
          rw [e] at hown'
          have e2 : (nuls k).length + 1 = (nuls (k + 1)).length := by simp [nuls_len]
          rw [e2] at hown'
          exact hown'
        have hBl : Below w.heap.size w w1 := (HB.out.alloc hsz _).grown hgrow (by simp; omega) (fun b hb => (HO.out.lt b hb).1)
        clear hown' hgrow
        go_wp2
        go_roundw
        case rel => exact ⟨k + 1, by omega, by go_num, hO, hBl⟩
        case measure => simp [intOf]; omega
    · have hc := HO.out.conv
      go_wp2
      go_ret
      have e : k = n.toNat := by omega
      subst e
      exact ⟨rfl, HB.out⟩

def fillv (s : ByteArray) (width : Int) : ByteArray := if 1024 < width ∨ width ≤ s.size then s else s ++ nulv (width - s.size).toNat
theorem nulv_size (n : Nat) : (nulv n).size = n := by simp [nulv, nuls, ByteArray.size]

theorem fill_spec (s : ByteArray) (width : Int) (w : World) (hs : s.size ≤ 9223372036854775807) :
    Calls Tryd.prog 29 #[.string s, .int .i64 width] w fun e w' => e = .returned (.string (fillv s width)) ∧ Below w.heap.size w w' := by
  by_cases h1 : 1024 < width
  · go_enter Tryd.func29, Tryd.ntmps29
    go_wp2
    go_ret
    exact ⟨ret_str (by rw [fillv, if_pos (.inl h1)]), Below.refl _ _⟩
  · by_cases h2 : width ≤ (s.size : Int)
    · go_enter Tryd.func29, Tryd.ntmps29
      go_wp2
      go_ret
      exact ⟨ret_str (by rw [fillv, if_pos (.inr h2)]), Below.refl _ _⟩
    · have hn : (nulv (width.toNat - s.size)).size ≤ 1024 := by rw [nulv_size]; omega
      go_enter Tryd.func29, Tryd.ntmps29
      go_wp2_with fail
      refine (nuls_spec _ _ (by omega)).mono ?_
      rintro e w' ⟨rfl, hb⟩
      go_wp2_with fail
      go_ret
      exact ⟨ret_str (by rw [fillv, if_neg (by omega), show (width - (s.size : Int)).toNat = width.toNat - s.size from by omega]), hb⟩

theorem repeatL_nul (n : Nat) : Lib.repeatL [0] n = nuls n := by
  induction n with
  | zero => rfl
  | succ n ih => rw [Lib.repeatL, ih]; simp [nuls, List.replicate_succ]

theorem fill_impl (s : ByteArray) (width : Int) (w : World) (hs : s.size ≤ 1099511627776) :
    Calls Tryd.prog 68 #[.string s, .int .i64 width] w fun e w' => e = .returned (.string (fillv s width)) ∧ Below w.heap.size w w' := by
  by_cases h2 : width ≤ (s.size : Int)
  · go_enter Tryd.func68, Tryd.ntmps68
    go_wp2_with (go_at_call 36; refine (clone_any _ _ (by omega)).mono ?_; rintro e w' ⟨rfl, hb⟩)
    go_ret
    exact ⟨ret_str (by rw [fillv, if_pos (.inr h2)]), by assumption⟩
  · by_cases h1 : 1024 < width
    · go_enter Tryd.func68, Tryd.ntmps68
      go_wp2_with (go_at_call 36; refine (clone_any _ _ (by omega)).mono ?_; rintro e w' ⟨rfl, hb⟩)
      go_ret
      exact ⟨ret_str (by rw [fillv, if_pos (.inl h1)]), by assumption⟩
    · obtain ⟨k, hk⟩ := Int.eq_ofNat_of_zero_le (show 0 ≤ width - (s.size : Int) by omega)
      obtain rfl : width = (s.size : Int) + k := by omega
      have hn : (nulv k).size ≤ 1024 := by rw [nulv_size]; omega
      have hr := fun w => Tryd.strings_Repeat ⟨#[0]⟩ k w (by omega) (by simp [ByteArray.size]; omega)
      have e1 : (⟨(Lib.repeatL (⟨#[0]⟩ : ByteArray).data.toList k).toArray⟩ : ByteArray) = nulv k := by simp [nulv, repeatL_nul]
      rw [e1] at hr
      have HR := Lib.hid hr
      clear hr e1 hk
      go_enter Tryd.func68, Tryd.ntmps68
      go_wp2_with fail
      rw [show (s.size : Int) + k - s.size = (k : Int) from by omega]
      refine (HR.out _).mono ?_
      rintro e w' ⟨rfl, hb⟩
      go_wp2_with fail
      go_ret
      refine ⟨ret_str ?_, hb⟩
      rw [fillv, if_neg (by omega), show ((s.size : Int) + k - s.size).toNat = k from by omega]

end Go.Proofs.YtgpgkgahbkmdiaaDoor

/- The texts of a header, and that what the program lays field by field is their sum: plain lists only. -/
namespace Go.Proofs.YtgpgkgahbkmdiaaDoor
open Go.ChangeShapes Go.WideShapes Go.ChangeAt Go.RowKit

def octz (n width : Int) : ByteArray := (putOctv n (width - 1)).1 ++ ⟨#[0]⟩
def magicU : ByteArray := ⟨#[117, 115, 116, 97, 114, 0, 48, 48]⟩
def headA (e : Ent) (name : ByteArray) (size : Int) : ByteArray := fillv name 100 ++ octz e.mode 8 ++ octz e.uid 8 ++ octz e.gid 8 ++ octz size 12 ++ octz e.time 12
def headB (e : Ent) (pf flag magic : ByteArray) : ByteArray := flag ++ fillv e.link 100 ++ magic ++ fillv e.user 32 ++ fillv e.group 32 ++ octz 0 8 ++ octz 0 8 ++ fillv pf 155 ++ nulv 12
def headv (e : Ent) (name pf flag : ByteArray) (size : Int) (magic : ByteArray) : ByteArray :=
  headA e name size ++ (putOctv (sumv (headA e name size).data.toList + 256 + sumv (headB e pf flag magic).data.toList) 6).1 ++ ⟨#[0, 32]⟩ ++ headB e pf flag magic
def putHeadv (e : Ent) (flag : ByteArray) (size : Int) : ByteArray :=
  if fitsv e = true ∧ flag.size = 1 ∧ (0 ≤ size ∧ size ≤ 3000) then headv e (splitN e.path) (splitP e.path) flag size magicU else ⟨#[]⟩

theorem numeral_8 {n k : Nat} (hk : 1 ≤ k) (h : n < 8 ^ k) : (numeral 8 n).length ≤ k := numeral_len (by omega) hk h
/-- A number that fits has just as many digits as its field. -/
theorem oct_fits {n : Int} {k : Nat} (h0 : 0 ≤ n) (hk : 1 ≤ k) (hk2 : k ≤ 17) (h : n.toNat < 8 ^ k) : (putOctv n k).2 = true ∧ (putOctv n k).1.size = k ∧ (putOctv n k).1 = ⟨(ahead (numeral 8 n.toNat) k).toArray⟩ := by
  have hp : (8 : Nat) ^ k ≤ 8 ^ 17 := Nat.pow_le_pow_right (by omega) hk2
  have hl := numeral_8 hk h
  have h17 : (8 : Nat) ^ 17 = 2251799813685248 := by decide
  have hv : Valid n k ∧ ((numeral 8 n.toNat).length : Int) ≤ k := ⟨⟨h0, by omega, by omega, by omega⟩, by omega⟩
  have e : putOctv n k = (⟨(ahead (numeral 8 n.toNat) k).toArray⟩, true) := by rw [putOctv, if_pos hv]
  rw [e]
  exact ⟨rfl, by rw [ba_size, ahead_len]; omega, rfl⟩
theorem putOct_size (n width : Int) : (putOctv n width).1.size ≤ 20 := by
  unfold putOctv
  split
  · rename_i h
    rw [ba_size, ahead_len]
    have := h.1.2.2.2
    omega
  · decide
theorem octz_size (n width : Int) : (octz n width).size ≤ 21 := by
  rw [octz, ByteArray.size_append]
  have := putOct_size n (width - 1)
  have e : (⟨#[0]⟩ : ByteArray).size = 1 := rfl
  omega
theorem fill_size (s : ByteArray) (width : Int) (h : 0 ≤ width) : (fillv s width).size ≤ s.size + width.toNat := by
  unfold fillv
  split
  · omega
  · rw [ByteArray.size_append, nulv_size]; omega
/-- A field of a text, filled. -/
theorem fill_short {s : ByteArray} {n : Nat} (h : s.size ≤ n) (hn : n ≤ 1024) : (fillv s n).data.toList = s.data.toList ++ nuls (n - s.size) := by
  unfold fillv
  by_cases q : s.size = n
  · rw [if_pos (.inr (by omega)), show n - s.size = 0 from by omega]; simp [nuls]
  · rw [if_neg (by omega), show ((n : Int) - s.size).toNat = n - s.size from by omega]
    simp [nulv]

/-- What a field of l holds behind a text laid over it. -/
theorem over_mid (a f b s : List UInt8) (h : s.length ≤ f.length) : over (a ++ f ++ b) a.length s = a ++ (s ++ f.drop s.length) ++ b := by
  unfold over
  have h1 : (a ++ f ++ b).take a.length = a := by simp
  have h2 : (a ++ f ++ b).drop (a.length + s.length) = f.drop s.length ++ b := by
    rw [List.append_assoc, ← List.drop_drop]
    simp [List.drop_append, Nat.sub_eq_zero_of_le h]
  rw [h1, h2]
  simp
/-- The fields of a header, each of its width, and what stands behind them. -/
def WF (F : List (List UInt8)) : Prop := F.map List.length = widths ++ [12]
def flat (F : List (List UInt8)) : List UInt8 := F.flatten
theorem flat_at {F : List (List UInt8)} (hF : WF F) {k x : Nat} (hk : k < 15) (hx : widths[k]? = some x) : ∃ f, F[k]? = some f ∧ f.length = x ∧ ∀ s : List UInt8, s.length ≤ x → over (flat F) (offs k) s = flat (F.set k (s ++ f.drop s.length)) := by
  have hlen : F.length = 16 := by have := congrArg List.length hF; simpa [widths] using this
  have hf : F[k]? = some F[k] := List.getElem?_eq_getElem (by omega)
  have hl : F[k].length = x := by
    have h1 : (F.map List.length)[k]? = some F[k].length := by rw [List.getElem?_map, hf]; rfl
    rw [hF, List.getElem?_append_left (by simp [widths]; omega), hx] at h1
    exact (Option.some.inj h1).symm
  refine ⟨F[k], hf, hl, fun s hs => ?_⟩
  have ho : (F.take k).flatten.length = offs k := by
    rw [List.length_flatten, List.map_take, hF, offs, List.take_append_of_le_length (by simp [widths]; omega)]
  have e1 : flat F = (F.take k).flatten ++ F[k] ++ (F.drop (k + 1)).flatten := by
    unfold flat
    have e0 : F = F.take k ++ F[k] :: F.drop (k + 1) := by rw [← List.drop_eq_getElem_cons (by omega : k < F.length), List.take_append_drop]
    have e3 := congrArg List.flatten e0
    rw [List.flatten_append, List.flatten_cons, ← List.append_assoc] at e3
    exact e3
  have e2 : flat (F.set k (s ++ F[k].drop s.length)) = (F.take k).flatten ++ (s ++ F[k].drop s.length) ++ (F.drop (k + 1)).flatten := by
    unfold flat
    rw [List.set_eq_take_append_cons_drop, if_pos (by omega)]
    simp
  rw [e1, e2, ← ho]
  exact over_mid _ _ _ _ (by omega)
theorem WF.set {F : List (List UInt8)} (hF : WF F) {k x : Nat} (hk : k < 15) (hx : widths[k]? = some x) {g : List UInt8} (hg : g.length = x) : WF (F.set k g) := by
  unfold WF at hF ⊢
  rw [List.map_set, hF]
  apply List.ext_getElem?
  intro i
  by_cases hi : i = k
  · subst hi
    rw [List.getElem?_set_self (by simp [widths]; omega), List.getElem?_append_left (by simp [widths]; omega), hx, hg]
  · rw [List.getElem?_set_ne (fun e => hi e.symm)]
end Go.Proofs.YtgpgkgahbkmdiaaDoor

/- Contracts of spec.PutBig, impl.PutBig and the law laws.FnExactPutBig, for every two ints. -/
namespace Go.Proofs.YtgpgkgahbkmdiaaDoor
open Go.ChangeShapes Go.WideShapes Go.ChangeAt Go.RowKit

/-- What is left of n, and the bytes made so far, behind j steps. -/
def bigSt (n : Int) : Nat → Int × List UInt8
  | 0 => (n, [])
  | j + 1 => ((bigSt n j).1 / 256, UInt8.ofNat ((bigSt n j).1 % 256).toNat :: (bigSt n j).2)
theorem bigSt_len (n : Int) : ∀ j, (bigSt n j).2.length = j
  | 0 => rfl
  | j + 1 => by simp [bigSt, bigSt_len n j]
theorem bigSt_bd (n : Int) (h0 : 0 ≤ n) (h1 : n ≤ 9007199254740991) : ∀ j, 0 ≤ (bigSt n j).1 ∧ (bigSt n j).1 ≤ 9007199254740991
  | 0 => ⟨h0, h1⟩
  | j + 1 => by have := bigSt_bd n h0 h1 j; simp only [bigSt]; omega
theorem byte_of (x : Int) : (((UInt8.ofNat (x % 256).toNat).toNat : Nat) : Int) = x % 256 := by
  have : (UInt8.ofNat (x % 256).toNat).toNat = (x % 256).toNat := by simp; omega
  rw [this]; omega

def putBigv (n width : Int) : ByteArray × Bool :=
  if 0 ≤ n ∧ n ≤ 9007199254740991 ∧ 2 ≤ width ∧ width ≤ 20 ∧ (bigSt n (width.toNat - 1)).1 = 0 then (⟨(128 :: (bigSt n (width.toNat - 1)).2).toArray⟩, true) else (⟨#[]⟩, false)
theorem putBigv_no {n width : Int} (h : ¬ (0 ≤ n ∧ n ≤ 9007199254740991 ∧ 2 ≤ width ∧ width ≤ 20)) : putBigv n width = (⟨#[]⟩, false) := by
  rw [putBigv, if_neg (fun k => h ⟨k.1, k.2.1, k.2.2.1, k.2.2.2.1⟩)]
theorem putBigv_more {n width : Int} (h : ¬ (bigSt n (width.toNat - 1)).1 = 0) : putBigv n width = (⟨#[]⟩, false) := by
  rw [putBigv, if_neg (fun k => h k.2.2.2.2)]
theorem putBigv_ok {n width : Int} (h0 : 0 ≤ n) (h1 : n ≤ 9007199254740991) (h2 : 2 ≤ width) (h3 : width ≤ 20) (h : (bigSt n (width.toNat - 1)).1 = 0) : putBigv n width = (⟨(128 :: (bigSt n (width.toNat - 1)).2).toArray⟩, true) := by
  rw [putBigv, if_pos ⟨h0, h1, h2, h3, h⟩]
theorem ret_tsb {a c : ByteArray} {b d : Bool} {r : ByteArray × Bool} (h : r = (a, b)) (h1 : c = a) (h2 : d = b) : Ending.returned (.tuple #[.string c, .bool d]) = .returned (.tuple #[.string r.1, .bool r.2]) := by
  subst h h1 h2; rfl

/-- A row of bytes of the call's own that is not nil. -/
def OwnS (w : World) (base : Nat) (v : Value) (l : List UInt8) : Prop := OwnB w base v l ∧ ∃ g cap, v = .slice (some ⟨g, 0, none⟩) l.length cap

theorem bigv_str (l : List UInt8) : (⟨#[128]⟩ : ByteArray) ++ ⟨l.toArray⟩ = ⟨(128 :: l).toArray⟩ := by
  apply ByteArray.ext; simp

set_option maxHeartbeats 800000 in
set_option maxRecDepth 8000 in
theorem putBig_spec (n width : Int) (w : World) :
    Calls Tryd.prog 65 #[.int .i64 n, .int .i64 width] w fun e w' => e = .returned (.tuple #[.string (putBigv n width).1, .bool (putBigv n width).2]) ∧ Below w.heap.size w w' := by
  by_cases h0 : 0 ≤ n ∧ n ≤ 9007199254740991
  · have i1 := inB_t h0
    by_cases h1 : 2 ≤ width ∧ width ≤ 20
    · have i2 := inB_t h1
      obtain ⟨i0, hi, hz0, hz1, hz2⟩ := info_parts Tryd.info5
      go_enter Tryd.func65, Tryd.ntmps65
      go_wp2_with (go_at_call 15; refine (in_any _ _ _ _).mono ?_; rintro e w' ⟨rfl, rfl⟩)
      go_loopw [6, 7, 8] (fun v m i wr => ∃ (j : Nat) (x : Int), j + 1 ≤ width.toNat ∧ i = .int .i64 ((j : Int) + 1) ∧ 0 ≤ x ∧ x ≤ 9007199254740991 ∧ m = .int .i64 x ∧ Hid (x = (bigSt n j).1) ∧ OwnS wr w.heap.size v (bigSt n j).2 ∧ Below w.heap.size w wr) (fun _ _ i _ => width.toNat - (intOf i).toNat)
      case atStart => exact ⟨0, n, by omega, rfl, h0.1, h0.2, rfl, Lib.hid rfl, ⟨OwnB.lit (Nat.le_refl _), _, _, rfl⟩, (Below.refl _ _).alloc (Nat.le_refl _) _⟩
      case round =>
        obtain ⟨j, x, hj, rfl, hx0, hx1, rfl, HX, ⟨hown, g, cap, rfl⟩, hb⟩ := hrel
        have HO := Lib.hid hown
        have HB := Lib.hid hb
        have hln := bigSt_len n j
        have HLN := Lib.hid hln
        clear hown hb hln
        by_cases hlt : (j : Int) + 1 < width
        · have hsz := HB.out.size
          go_wp2_with (at_builtin; refine wpList_append_own _ rfl _ _ 56 rfl w.heap.size 5 i0 (.int .u8 0) 1 1 Tryd.underlying56 hi hz0 hz1 hz2 rfl (by decide) _ 1 [.int .u8 (x % 256)] rfl (World.ownsRow_lit wr #[.int .u8 (x % 256)] 1 hsz (by simp [maxLen]) rfl) ⟨g, 0, none⟩ _ cap (byteVals (bigSt n j).2) rfl ?c0 ?c1 ?c2 ?c3 ?c4 ?c5 ?_)
          case c0 => simp [byteVals_length]
          case c1 => exact World.ownsRow.cells (HO.out.alloc _) rfl
          case c2 => intro u hu; simp [byteVals] at hu; obtain ⟨c, _, rfl⟩ := hu; rfl
          case c3 => rw [HLN.out]; simp only [maxLen]; omega
          case c4 => rw [HLN.out]; omega
          case c5 => simp; omega
          · intro v' w1 hown' hgrow hnil
            have hO : OwnB w1 w.heap.size v' (bigSt n (j + 1)).2 := by
              have e : Value.int .u8 (x % 256) :: byteVals (bigSt n j).2 = byteVals (bigSt n (j + 1)).2 := by
                simp only [bigSt, byteVals, List.map_cons]
                rw [byte_of, ← HX.out]
              rw [e] at hown'
              have e2 : 1 + (bigSt n j).2.length = (bigSt n (j + 1)).2.length := by simp only [bigSt_len]; omega
              rw [e2] at hown'
              exact hown'
            have hS : OwnS w1 w.heap.size v' (bigSt n (j + 1)).2 := by
              refine ⟨hO, ?_⟩
              obtain ⟨_, ⟨rfl, _⟩ | ⟨g', cap', cur, rfl, _⟩⟩ := hO
              · simp at hnil
              · exact ⟨g', cap', rfl⟩
            have hBl : Below w.heap.size w w1 := (HB.out.alloc hsz _).grown hgrow (by simp; omega) (fun b hb => by simp [Value.ownBlock] at hb; omega)
            have HX' := Lib.hid (show x / 256 = (bigSt n (j + 1)).1 by rw [HX.out]; rfl)
            clear hown' hgrow hnil hO
            go_wp2
            go_roundw
            case rel => exact ⟨j + 1, x / 256, by omega, by go_num, by omega, by omega, rfl, HX', hS, hBl⟩
            case measure => simp [intOf]; omega
        · have hjw : j = width.toNat - 1 := by omega
          have HJ := Lib.hid hjw
          clear hjw
          have hc := HO.out.conv
          by_cases hx : x = 0
          · have hsize : (bigSt n j).2.length ≤ 20 := by rw [HLN.out]; omega
            have HX0 := Lib.hid hx
            have hx1 : ¬ (0 < x) := by omega
            clear hx
            go_wp2
            go_ret2
            refine ⟨ret_tsb (putBigv_ok h0.1 h0.2 h1.1 h1.2 ?_) ?_ rfl, HB.out⟩
            · rw [← HJ.out, ← HX.out]; exact HX0.out
            · rw [← HJ.out]; exact bigv_str _
          · go_wp2
            go_ret2
            exact ⟨ret_tsb (putBigv_more (by rw [← HJ.out, ← HX.out]; exact hx)) rfl rfl, HB.out⟩
    · have i2 := inB_f h1
      go_enter Tryd.func65, Tryd.ntmps65
      go_wp2_with (go_at_call 15; refine (in_any _ _ _ _).mono ?_; rintro e w' ⟨rfl, rfl⟩)
      go_ret2
      exact ⟨ret_tsb (putBigv_no (by omega)) rfl rfl, Below.refl _ _⟩
  · have i1 := inB_f h0
    go_enter Tryd.func65, Tryd.ntmps65
    go_wp2_with (go_at_call 15; refine (in_any _ _ _ _).mono ?_; rintro e w' ⟨rfl, rfl⟩)
    go_ret2
    exact ⟨ret_tsb (putBigv_no (by omega)) rfl rfl, Below.refl _ _⟩

theorem set_row (p : Nat) (L : List UInt8) (b : UInt8) : (128 :: (List.replicate (p + 1) (0 : UInt8) ++ L)).set (p + 1) b = 128 :: (List.replicate p 0 ++ (b :: L)) := by
  simp only [List.set_cons_succ]
  congr 1
  rw [List.replicate_succ', List.append_assoc, List.set_append_right _ _ (by simp)]
  simp
theorem byteVals_set (l : List UInt8) (i : Nat) (b : UInt8) : (byteVals l).set i (.int .u8 ((b.toNat : Nat) : Int)) = byteVals (l.set i b) := by
  simp [byteVals, List.map_set]
theorem byteVals_zeros (n : Nat) : List.replicate n (Value.int .u8 0) = byteVals (List.replicate n 0) := by simp [byteVals]

/-- The row behind j steps, p + j + 1 bytes in all. -/
def bigRow (n : Int) (p j : Nat) : List UInt8 := 128 :: (List.replicate p 0 ++ (bigSt n j).2)
theorem bigRow_len (n : Int) (p j : Nat) : (bigRow n p j).length = p + j + 1 := by simp [bigRow, bigSt_len]
theorem bigRow_step (n : Int) (p j : Nat) : (bigRow n (p + 1) j).set (p + 1) (UInt8.ofNat ((bigSt n j).1 % 256).toNat) = bigRow n p (j + 1) := by
  rw [bigRow, set_row]; rfl

set_option maxHeartbeats 800000 in
set_option maxRecDepth 8000 in
theorem putBig_impl (n width : Int) (w : World) :
    Calls Tryd.prog 63 #[.int .i64 n, .int .i64 width] w fun e w' => e = .returned (.tuple #[.string (putBigv n width).1, .bool (putBigv n width).2]) ∧ Below w.heap.size w w' := by
  by_cases h0 : 0 ≤ n ∧ n ≤ 9007199254740991 ∧ 2 ≤ width ∧ width ≤ 20
  · obtain ⟨ha, hb, hc, hd⟩ := h0
    obtain ⟨W, rfl⟩ := Int.eq_ofNat_of_zero_le (show 0 ≤ width by omega)
    obtain ⟨i0, hi, hz0, hz1, hz2⟩ := info_parts Tryd.info5
    go_enter Tryd.func63, Tryd.ntmps63
    go_wp2_with (at_make; refine wpList_make_full _ rfl _ _ 56 rfl w.heap.size 5 i0 (.int .u8 0) 1 Tryd.underlying56 hi hz0 hz1 .i64 .i64 (W : Int) (W : Int) W rfl rfl rfl rfl (by rw [hz2]; omega) (by simp only [maxLen]; omega) (Nat.le_refl _) ?_)
    intro w1 hown hgrow
    have hp : 0 < W := by omega
    have hpi : (0 : Int) < (W : Int) := by omega
    have hcell : ∃ v, w1.cell? ⟨w.heap.size, 0, none⟩ = some v := by
      rw [World.ownsRow.cellAt hown 0 (by omega)]
      rw [toList_madeCells_one]
      exact ⟨.int .u8 0, by rw [List.getElem?_replicate, if_pos (by omega)]⟩
    obtain ⟨cv, hcv⟩ := hcell
    have hfz := World.ownsRow.frozenAt hown 0
    have hst := (World.ownsRow.stored hown 0 (.int .u8 128))
    have hO : OwnB (w1.setCell ⟨w.heap.size, 0, none⟩ (.int .u8 128)) w.heap.size (.slice (some ⟨w.heap.size, 0, none⟩) W W) (bigRow n (W - 1) 0) := by
      have h := hst.1
      have e : (madeCells #[.int .u8 0] W).toList.set 0 (.int .u8 128) = byteVals (bigRow n (W - 1) 0) := by
        obtain ⟨V, rfl⟩ : ∃ V, W = V + 1 := ⟨W - 1, by omega⟩
        rw [toList_madeCells_one]
        simp [List.replicate_succ, bigRow, bigSt, byteVals]
      rw [e] at h
      have e2 : W = (bigRow n (W - 1) 0).length := by rw [bigRow_len]; omega
      unfold OwnB
      rw [← e2]
      exact h
    have hBl : Below w.heap.size w (w1.setCell ⟨w.heap.size, 0, none⟩ (.int .u8 128)) := by
      have h1 : Below w.heap.size w w1 := (Below.refl _ _).grown hgrow (Nat.le_refl _) (fun k hk => by cases hk)
      exact h1.setCell (Nat.le_refl _) _
    have HO := Lib.hid hO
    have HB := Lib.hid hBl
    clear hO hBl hst hown hgrow
    go_wp2
    go_loopw [0, 7] (fun m i wr => ∃ (j p : Nat) (x : Int), p + j + 1 = W ∧ i = .int .i64 (p : Int) ∧ 0 ≤ x ∧ x ≤ 9007199254740991 ∧ m = .int .i64 x ∧ Hid (x = (bigSt n j).1) ∧ OwnB wr w.heap.size (.slice (some ⟨w.heap.size, 0, none⟩) W W) (bigRow n p j) ∧ Below w.heap.size w wr) (fun _ i _ => (intOf i).toNat)
    case atStart => exact ⟨0, W - 1, n, by omega, by go_num, ha, hb, rfl, Lib.hid rfl, HO.out, HB.out⟩
    case round =>
      obtain ⟨j, p, x, hjp, rfl, hx0, hx1, rfl, HX, hown, hbl⟩ := hrel
      have HOw := Lib.hid hown
      have HBw := Lib.hid hbl
      have HJP := Lib.hid hjp
      have hpW : p < W := by omega
      have hpWi : (p : Int) < (W : Int) := by omega
      clear hown hbl hjp
      by_cases hp0 : p = 0
      · subst hp0
        have hconv := HOw.out.conv
        have HJ := Lib.hid (show j = (W : Int).toNat - 1 by have := HJP.out; omega)
        have e0 : bigRow n 0 j = 128 :: (bigSt n j).2 := rfl
        rw [e0] at hconv
        clear e0
        by_cases hx : x = 0
        · have hx2 : (x != 0) = false := by simp [hx]
          have HX0 := Lib.hid hx
          clear hx
          go_wp2
          go_ret2
          refine ⟨ret_tsb (putBigv_ok ha hb hc hd ?_) ?_ rfl, HBw.out⟩
          · rw [← HJ.out, ← HX.out]; exact HX0.out
          · rw [← HJ.out]
        · have hx2 : (x != 0) = true := by simp [hx]
          go_wp2
          go_ret2
          exact ⟨ret_tsb (putBigv_more (by rw [← HJ.out, ← HX.out]; exact hx)) rfl rfl, HBw.out⟩
      · obtain ⟨q, rfl⟩ : ∃ q, p = q + 1 := ⟨p - 1, by omega⟩
        have hlen : W = (bigRow n (q + 1) j).length := by rw [bigRow_len]; have := HJP.out; omega
        have hO2 : wr.ownsRow w.heap.size 5 1 (.slice (some ⟨w.heap.size, 0, none⟩) W W) W (byteVals (bigRow n (q + 1) j)) := by
          have := HOw.out
          unfold OwnB at this
          rw [← hlen] at this
          exact this
        have hcell : ∃ v, wr.cell? ⟨w.heap.size, q + 1, none⟩ = some v := by
          rw [World.ownsRow.cellAt hO2 (q + 1) (by omega)]
          exact ⟨_, List.getElem?_eq_getElem (by rw [byteVals_length, ← hlen]; exact hpW)⟩
        obtain ⟨cw, hcw⟩ := hcell
        have hfw := World.ownsRow.frozenAt hO2 (q + 1)
        have hst := (World.ownsRow.stored hO2 (q + 1) (.int .u8 (x % 256))).1
        have hO3 : OwnB (wr.setCell ⟨w.heap.size, q + 1, none⟩ (.int .u8 (x % 256))) w.heap.size (.slice (some ⟨w.heap.size, 0, none⟩) W W) (bigRow n q (j + 1)) := by
          have e : (byteVals (bigRow n (q + 1) j)).set (q + 1) (.int .u8 (x % 256)) = byteVals (bigRow n q (j + 1)) := by
            rw [← bigRow_step, ← byteVals_set, byte_of, ← HX.out]
          rw [e] at hst
          have e2 : W = (bigRow n q (j + 1)).length := by rw [bigRow_len]; have := HJP.out; omega
          unfold OwnB
          rw [← e2]
          exact hst
        have hB3 : Below w.heap.size w (wr.setCell ⟨w.heap.size, q + 1, none⟩ (.int .u8 (x % 256))) := HBw.out.setCell (Nat.le_refl _) _
        have HO3 := Lib.hid hO3
        have HB3 := Lib.hid hB3
        have HX' := Lib.hid (show x / 256 = (bigSt n (j + 1)).1 by rw [HX.out]; rfl)
        clear hO3 hB3 hst hO2 hlen
        go_wp2
        go_roundw
        case rel => exact ⟨j + 1, q, x / 256, by have := HJP.out; omega, by go_num, by omega, by omega, rfl, HX', HO3.out, HB3.out⟩
        case measure => simp [intOf]
  · by_cases a1 : n < 0
    · go_enter Tryd.func63, Tryd.ntmps63
      go_wp2
      go_ret2
      exact ⟨ret_tsb (putBigv_no (by omega)) rfl rfl, Below.refl _ _⟩
    · by_cases a2 : 9007199254740991 < n
      · go_enter Tryd.func63, Tryd.ntmps63
        go_wp2
        go_ret2
        exact ⟨ret_tsb (putBigv_no (by omega)) rfl rfl, Below.refl _ _⟩
      · by_cases a3 : width < 2
        · go_enter Tryd.func63, Tryd.ntmps63
          go_wp2
          go_ret2
          exact ⟨ret_tsb (putBigv_no (by omega)) rfl rfl, Below.refl _ _⟩
        · have a4 : 20 < width := by omega
          clear h0
          go_enter Tryd.func63, Tryd.ntmps63
          go_wp2
          go_ret2
          exact ⟨ret_tsb (putBigv_no (by omega)) rfl rfl, Below.refl _ _⟩

end Go.Proofs.YtgpgkgahbkmdiaaDoor

/- Plain mathematics of digits read by a base; nothing of the program is said here. -/
namespace Go.Proofs.YtgpgkgahbkmdiaaDoor

def dig (c : Int) : Int := if 48 ≤ c ∧ c ≤ 57 then c - 48 else if 97 ≤ c ∧ c ≤ 102 then c - 87 else -1
def step (b n c : Int) : Option Int := if dig c < 0 ∨ b ≤ dig c ∨ 9007199254740991 < n * b + dig c then none else some (n * b + dig c)
def lead (b : Int) : Int → List UInt8 → Int × Nat
  | n, [] => (n, 0)
  | n, c :: l => match step b n (c.toNat : Int) with
    | none => (n, 0)
    | some m => ((lead b m l).1, (lead b m l).2 + 1)
def vals (b : Int) : Int → List UInt8 → Int
  | n, [] => n
  | n, c :: l => match step b n (c.toNat : Int) with
    | none => -1
    | some m => vals b m l

theorem lead_none {b n : Int} {c : UInt8} {l : List UInt8} (h : step b n (c.toNat : Int) = none) : lead b n (c :: l) = (n, 0) := by simp [lead, h]
theorem lead_some {b n m : Int} {c : UInt8} {l : List UInt8} (h : step b n (c.toNat : Int) = some m) : lead b n (c :: l) = ((lead b m l).1, (lead b m l).2 + 1) := by simp [lead, h]
theorem vals_none {b n : Int} {c : UInt8} {l : List UInt8} (h : step b n (c.toNat : Int) = none) : vals b n (c :: l) = -1 := by simp [vals, h]
theorem vals_some {b n m : Int} {c : UInt8} {l : List UInt8} (h : step b n (c.toNat : Int) = some m) : vals b n (c :: l) = vals b m l := by simp [vals, h]

theorem dig_num {c : Int} (h : 48 ≤ c) (h' : c ≤ 57) : dig c = c - 48 := by simp [dig, h, h']
theorem dig_let {c : Int} (h : 97 ≤ c) (h' : c ≤ 102) : dig c = c - 87 := by
  unfold dig; rw [if_neg (by omega), if_pos ⟨h, h'⟩]
theorem dig_bad {c : Int} (h : ¬ (48 ≤ c ∧ c ≤ 57)) (h' : ¬ (97 ≤ c ∧ c ≤ 102)) : dig c = -1 := by
  unfold dig; rw [if_neg h, if_neg h']
theorem dig_lt (c : Int) : -1 ≤ dig c ∧ dig c ≤ 15 := by
  unfold dig
  split
  · omega
  · split <;> omega
theorem step_bad {b n c d : Int} (hd : dig c = d) (h : d < 0 ∨ b ≤ d ∨ 9007199254740991 < n * b + d) : step b n c = none := by
  subst hd; rw [step, if_pos h]
theorem step_ok {b n c d : Int} (hd : dig c = d) (h0 : 0 ≤ d) (h1 : d < b) (h2 : n * b + d ≤ 9007199254740991) : step b n c = some (n * b + d) := by
  subst hd; rw [step, if_neg (by omega)]
theorem step_bd {b n c m : Int} (hb : 0 ≤ b) (hn : 0 ≤ n) (h : step b n c = some m) : 0 ≤ m ∧ m ≤ 9007199254740991 := by
  unfold step at h
  split at h
  · simp at h
  · simp at h
    have := Int.mul_nonneg hn hb
    omega
theorem lead_len (b : Int) : ∀ (n : Int) (l : List UInt8), (lead b n l).2 ≤ l.length
  | n, [] => by simp [lead]
  | n, c :: l => by
    cases h : step b n (c.toNat : Int) with
    | none => simp [lead_none h]
    | some m => have := lead_len b m l; simp [lead_some h]; omega
theorem lead_bd (b : Int) (hb : 0 ≤ b) : ∀ (n : Int) (l : List UInt8), 0 ≤ n → n ≤ 9007199254740991 → 0 ≤ (lead b n l).1 ∧ (lead b n l).1 ≤ 9007199254740991
  | n, [], h0, h1 => by simp [lead]; omega
  | n, c :: l, h0, h1 => by
    cases h : step b n (c.toNat : Int) with
    | none => simp [lead_none h]; omega
    | some m =>
      obtain ⟨a, b'⟩ := step_bd hb h0 h
      rw [lead_some h]
      exact lead_bd b hb m l a b'
theorem vals_lead (b : Int) (hb : 0 ≤ b) : ∀ (n : Int) (l : List UInt8), 0 ≤ n → vals b n l = if (lead b n l).2 = l.length then (lead b n l).1 else -1
  | n, [], _ => by simp [vals, lead]
  | n, c :: l, h0 => by
    cases h : step b n (c.toNat : Int) with
    | none => simp [lead_none h, vals_none h]
    | some m =>
      rw [lead_some h, vals_some h, vals_lead b hb m l (step_bd hb h0 h).1]
      simp
theorem drop_atN (s : ByteArray) (k : Nat) (h : k < s.size) : s.data.toList.drop k = s[k] :: s.data.toList.drop (k + 1) := by
  have h' : k < s.data.toList.length := by simpa using h
  rw [List.drop_eq_getElem_cons h']; rfl
theorem drop_end (s : ByteArray) (k : Nat) (h : s.size ≤ k) : s.data.toList.drop k = [] := by simp; exact h

/-- What is left to read from index k on, with n read so far. -/
def LeadFrom (b : Int) (s : ByteArray) (n : Int) (k : Nat) : Prop :=
  lead b 0 s.data.toList = ((lead b n (s.data.toList.drop k)).1, (lead b n (s.data.toList.drop k)).2 + k)
theorem LeadFrom.start (b : Int) (s : ByteArray) : LeadFrom b s 0 0 := by simp [LeadFrom]
theorem LeadFrom.more {b n m : Int} {s : ByteArray} {k : Nat} (h : LeadFrom b s n k) (hk : k < s.size) (hs : step b n (s[k].toNat : Int) = some m) : LeadFrom b s m (k + 1) := by
  unfold LeadFrom at *
  rw [h, drop_atN s k hk, lead_some hs]
  simp; omega
theorem LeadFrom.stop {b n : Int} {s : ByteArray} {k : Nat} (h : LeadFrom b s n k) (hk : k < s.size) (hs : step b n (s[k].toNat : Int) = none) : lead b 0 s.data.toList = (n, k) := by
  unfold LeadFrom at h
  rw [h, drop_atN s k hk, lead_none hs]
  simp
theorem LeadFrom.done {b n : Int} {s : ByteArray} {k : Nat} (h : LeadFrom b s n k) (hk : s.size ≤ k) : lead b 0 s.data.toList = (n, k) := by
  unfold LeadFrom at h
  rw [h, drop_end s k hk]
  simp [lead]
def ValsFrom (b : Int) (s : ByteArray) (n : Int) (k : Nat) : Prop := vals b 0 s.data.toList = vals b n (s.data.toList.drop k)
theorem ValsFrom.start (b : Int) (s : ByteArray) : ValsFrom b s 0 0 := by simp [ValsFrom]
theorem ValsFrom.more {b n m : Int} {s : ByteArray} {k : Nat} (h : ValsFrom b s n k) (hk : k < s.size) (hs : step b n (s[k].toNat : Int) = some m) : ValsFrom b s m (k + 1) := by
  unfold ValsFrom at *
  rw [h, drop_atN s k hk, vals_some hs]
theorem ValsFrom.stop {b n : Int} {s : ByteArray} {k : Nat} (h : ValsFrom b s n k) (hk : k < s.size) (hs : step b n (s[k].toNat : Int) = none) : vals b 0 s.data.toList = -1 := by
  unfold ValsFrom at h
  rw [h, drop_atN s k hk, vals_none hs]
theorem ValsFrom.done {b n : Int} {s : ByteArray} {k : Nat} (h : ValsFrom b s n k) (hk : s.size ≤ k) : vals b 0 s.data.toList = n := by
  unfold ValsFrom at h
  rw [h, drop_end s k hk]
  simp [vals]
end Go.Proofs.YtgpgkgahbkmdiaaDoor

/- Plain mathematics: a numeral is read as its number. Nothing of the program is said here. -/
namespace Go.Proofs.YtgpgkgahbkmdiaaDoor

theorem dch_nat (d : Nat) (h : d < 16) : (dch d).toNat = if d < 10 then 48 + d else 87 + d := by
  unfold dch; split
  · simp; omega
  · simp; omega
theorem dig_dch (d : Nat) (h : d < 16) : dig ((dch d).toNat : Int) = d := by
  rw [dch_nat d h]
  by_cases hd : d < 10
  · rw [if_pos hd, dig_num (by omega) (by omega)]; omega
  · rw [if_neg hd, dig_let (by omega) (by omega)]; omega
theorem lead_append (b : Int) : ∀ (n : Int) (l r : List UInt8), (lead b n l).2 = l.length → lead b n (l ++ r) = ((lead b (lead b n l).1 r).1, (lead b (lead b n l).1 r).2 + l.length)
  | n, [], r, _ => by simp [lead]
  | n, c :: l, r, h => by
    cases hs : step b n (c.toNat : Int) with
    | none => rw [lead_none hs] at h; simp at h
    | some m =>
      rw [lead_some hs] at h
      simp only [List.length_cons, Nat.add_right_cancel_iff] at h
      rw [List.cons_append, lead_some hs, lead_append b m l r h, lead_some hs]
      simp; omega
/-- The digits of u are read as u, whatever follows is read on from there. -/
theorem lead_digs (b : Nat) (hb : 2 ≤ b) (hb16 : b ≤ 16) : ∀ (k u : Nat), u ≤ k → (u : Int) ≤ 9007199254740991 → lead b 0 (digs b u) = ((u : Int), (digs b u).length) := by
  intro k
  induction k with
  | zero => intro u h _; obtain rfl : u = 0 := by omega
            simp [digs_zero, lead]
  | succ k ih =>
    intro u h hM
    by_cases hu : u = 0
    · subst hu; simp [digs_zero, lead]
    · have hlt : u / b < u := Nat.div_lt_self (by omega) (by omega)
      have h1 := ih (u / b) (by omega) (by omega)
      have hmod : u % b < b := Nat.mod_lt u (by omega)
      have hdm := Nat.div_add_mod u b
      have hst : step b ((u / b : Nat) : Int) ((dch (u % b)).toNat : Int) = some (u : Int) := by
        have h2 : ((u / b : Nat) : Int) * (b : Int) + ((u % b : Nat) : Int) = (u : Int) := by
          have : u / b * b + u % b = u := by rw [Nat.mul_comm]; exact hdm
          exact_mod_cast this
        rw [step_ok (dig_dch (u % b) (by omega)) (by omega) (by omega) (by rw [h2]; exact hM), h2]
      rw [digs_pos hb (by omega), lead_append _ _ _ _ (by rw [h1]), h1]
      simp only
      rw [lead_some hst]
      simp [lead]; omega
theorem lead_numeral (b : Nat) (hb : 2 ≤ b) (hb16 : b ≤ 16) (u : Nat) (hM : (u : Int) ≤ 9007199254740991) : lead b 0 (numeral b u) = ((u : Int), (numeral b u).length) := by
  unfold numeral; split
  · rename_i h; subst h
    have hs : step b 0 (((48 : UInt8).toNat : Nat) : Int) = some 0 := by
      have := step_ok (b := b) (n := 0) (c := (((48 : UInt8).toNat : Nat) : Int)) (d := 0) (by decide) (by omega) (by omega) (by omega)
      simpa using this
    rw [lead_some hs]; simp [lead]
  · exact lead_digs b hb hb16 u u (Nat.le_refl _) hM
/-- What does not begin with a digit stops the reading. -/
def Stops (b : Int) (r : List UInt8) : Prop := r = [] ∨ ∃ c t, r = c :: t ∧ ∀ n, step b n (c.toNat : Int) = none
theorem lead_then (b : Nat) (hb : 2 ≤ b) (hb16 : b ≤ 16) (u : Nat) (hM : (u : Int) ≤ 9007199254740991) (r : List UInt8) (hr : Stops b r) : lead b 0 (numeral b u ++ r) = ((u : Int), (numeral b u).length) := by
  have h := lead_numeral b hb hb16 u hM
  rw [lead_append _ _ _ _ (by rw [h]), h]
  simp only
  rcases hr with rfl | ⟨c, t, rfl, hc⟩
  · simp [lead]
  · rw [lead_none (hc _)]; simp
theorem zeros_lead (b : Nat) (hb : 2 ≤ b) : ∀ (k : Nat) (l : List UInt8), lead b 0 (List.replicate k 48 ++ l) = ((lead b 0 l).1, (lead b 0 l).2 + k)
  | 0, l => by simp
  | k + 1, l => by
    have hs : step b 0 (((48 : UInt8).toNat : Nat) : Int) = some 0 := by
      have := step_ok (b := b) (n := 0) (c := (((48 : UInt8).toNat : Nat) : Int)) (d := 0) (by decide) (by omega) (by omega) (by omega)
      simpa using this
    rw [List.replicate_succ, List.cons_append, lead_some hs, zeros_lead b hb k l]
    simp; omega
theorem space_stops (b : Int) (k : Nat) : Stops b (List.replicate k 32) := by
  cases k with
  | zero => exact .inl rfl
  | succ k => exact .inr ⟨32, List.replicate k 32, rfl, fun n => step_bad (d := -1) (by decide) (.inl (by omega))⟩
theorem digs_lt {b : Nat} (hb : 2 ≤ b) : ∀ (k u : Nat), (digs b u).length ≤ k → u < b ^ k
  | 0, u, h => by
    rcases Nat.eq_zero_or_pos u with hu | hu
    · subst hu; simp
    · rw [digs_pos hb hu] at h; simp at h
  | k + 1, u, h => by
    rcases Nat.eq_zero_or_pos u with hu | hu
    · subst hu; exact Nat.pow_pos (by omega)
    · rw [digs_pos hb hu] at h
      simp at h
      have := digs_lt hb k (u / b) h
      rw [Nat.div_lt_iff_lt_mul (by omega)] at this
      rw [Nat.pow_succ]; exact this
theorem numeral_lt {b : Nat} (hb : 2 ≤ b) (k u : Nat) (h : (numeral b u).length ≤ k) : u < b ^ k := by
  unfold numeral at h; split at h
  · rename_i hu; subst hu; exact Nat.pow_pos (by omega)
  · exact digs_lt hb k u h
end Go.Proofs.YtgpgkgahbkmdiaaDoor

/- A number in a header's field: octal digits and a NUL, or, where it has no place so, in binary; a header's texts with such numbers: plain lists only. -/
namespace Go.Proofs.YtgpgkgahbkmdiaaDoor
open Go.ChangeShapes Go.WideShapes Go.ChangeAt Go.RowKit

def numz (n : Int) (x : Nat) : ByteArray := if (putOctv n ((x : Int) - 1)).2 = true then octz n x else (putBigv n x).1
theorem putOct_true {n width : Int} (h : (putOctv n width).2 = true) : (putOctv n width).1.size = width.toNat ∧ n.toNat < 8 ^ width.toNat := by
  unfold putOctv at h ⊢
  split
  · rename_i hv
    have hl : ((numeral 8 n.toNat).length : Int) ≤ width := hv.2
    refine ⟨by rw [ba_size, ahead_len]; omega, ?_⟩
    exact numeral_lt (by omega) width.toNat n.toNat (by omega)
  · rename_i hv
    rw [if_neg hv] at h
    cases h
theorem bigSt_7 {n : Int} (h0 : 0 ≤ n) (h1 : n ≤ 9007199254740991) {j : Nat} (hj : 7 ≤ j) : (bigSt n j).1 = 0 := by
  obtain ⟨d, rfl⟩ : ∃ d, j = 7 + d := ⟨j - 7, by omega⟩
  induction d with
  | zero => simp only [bigSt]; omega
  | succ d ih =>
    have := ih (by omega)
    show (bigSt n (7 + d)).1 / 256 = 0
    rw [this]; rfl
theorem putBig_fits {n : Int} {x : Nat} (h0 : 0 ≤ n) (h1 : n ≤ 9007199254740991) (hx : 8 ≤ x) (hx2 : x ≤ 20) : (putBigv n x).2 = true ∧ (putBigv n x).1.size = x := by
  have e := putBigv_ok (width := (x : Int)) h0 h1 (by omega) (by omega) (bigSt_7 h0 h1 (j := ((x : Int)).toNat - 1) (by omega))
  rw [e]
  refine ⟨rfl, ?_⟩
  rw [ba_size, List.length_cons, bigSt_len]
  omega
theorem numz_size {n : Int} {x : Nat} (h0 : 0 ≤ n) (h1 : n ≤ 9007199254740991) (hx : 8 ≤ x) (hx2 : x ≤ 20) : (numz n x).size = x := by
  unfold numz
  split
  · rename_i h
    obtain ⟨h2, _⟩ := putOct_true h
    rw [octz, ByteArray.size_append, h2]
    have : (⟨#[0]⟩ : ByteArray).size = 1 := rfl
    omega
  · exact (putBig_fits h0 h1 hx hx2).2
theorem numz_oct {n : Int} {x : Nat} (h0 : 0 ≤ n) (hx : 2 ≤ x) (hx2 : x ≤ 18) (h : n.toNat < 8 ^ (x - 1)) : numz n x = octz n x := by
  obtain ⟨h1, _, _⟩ := oct_fits h0 (show 1 ≤ x - 1 by omega) (by omega) h
  rw [numz, if_pos]
  rw [show (x : Int) - 1 = ((x - 1 : Nat) : Int) from by omega]
  exact h1
theorem numz_big {n : Int} {x : Nat} (hx : 1 ≤ x) (h : 8 ^ (x - 1) ≤ n.toNat) : numz n x = (putBigv n x).1 := by
  rw [numz, if_neg]
  intro hf
  have := (putOct_true hf).2
  rw [show ((x : Int) - 1).toNat = x - 1 from by omega] at this
  omega

/-- A header's texts with such numbers: its name, prefix, flag and magic are told beside the entry. -/
def hdA (e : Ent) (name : ByteArray) (size : Int) : ByteArray := fillv name 100 ++ numz e.mode 8 ++ numz e.uid 8 ++ numz e.gid 8 ++ numz size 12 ++ numz e.time 12
def hdv (e : Ent) (name pf flag : ByteArray) (size : Int) (magic : ByteArray) : ByteArray :=
  hdA e name size ++ (putOctv (sumv (hdA e name size).data.toList + 256 + sumv (headB e pf flag magic).data.toList) 6).1 ++ ⟨#[0, 32]⟩ ++ headB e pf flag magic
theorem hdv_head {e : Ent} {name pf flag magic : ByteArray} {size : Int} (hm : 0 ≤ e.mode ∧ e.mode ≤ 4095) (hu : 0 ≤ e.uid ∧ e.uid ≤ 2097151) (hg : 0 ≤ e.gid ∧ e.gid ≤ 2097151) (ht : 0 ≤ e.time ∧ e.time ≤ 8589934591) (hs : 0 ≤ size ∧ size ≤ 3000) :
    hdv e name pf flag size magic = headv e name pf flag size magic := by
  have p7 : (8 : Nat) ^ (8 - 1) = 2097152 := by decide
  have p11 : (8 : Nat) ^ (12 - 1) = 8589934592 := by decide
  have eA : hdA e name size = headA e name size := by
    rw [hdA, headA, numz_oct hm.1 (by omega) (by omega) (by omega), numz_oct hu.1 (by omega) (by omega) (by omega), numz_oct hg.1 (by omega) (by omega) (by omega), numz_oct hs.1 (by omega) (by omega) (by omega), numz_oct ht.1 (by omega) (by omega) (by omega)]
    rfl
  rw [hdv, headv, eA]
theorem fill_exact {s : ByteArray} {n : Nat} (h : s.size ≤ n) (hn : n ≤ 1024) : (fillv s n).size = n := by
  have := congrArg List.length (fill_short h hn)
  simp [nuls] at this
  omega
theorem octz_exact {n : Int} {x : Nat} (h0 : 0 ≤ n) (hx : 2 ≤ x) (hx2 : x ≤ 18) (h : n.toNat < 8 ^ (x - 1)) : (octz n x).size = x := by
  obtain ⟨_, hz, _⟩ := oct_fits h0 (show 1 ≤ x - 1 by omega) (by omega) h
  rw [octz, ByteArray.size_append, show (x : Int) - 1 = ((x - 1 : Nat) : Int) from by omega, hz]
  have : (⟨#[0]⟩ : ByteArray).size = 1 := rfl
  omega
theorem hdA_size {e : Ent} {name : ByteArray} {size : Int} (zn : name.size ≤ 100) (nm : 0 ≤ e.mode ∧ e.mode ≤ 9007199254740991) (nu : 0 ≤ e.uid ∧ e.uid ≤ 9007199254740991) (ng : 0 ≤ e.gid ∧ e.gid ≤ 9007199254740991) (nt : 0 ≤ e.time ∧ e.time ≤ 9007199254740991) (ns : 0 ≤ size ∧ size ≤ 9007199254740991) : (hdA e name size).size = 148 := by
  have a1 := fill_exact zn (by omega)
  have a2 := numz_size (x := 8) nm.1 nm.2 (by omega) (by omega)
  have a3 := numz_size (x := 8) nu.1 nu.2 (by omega) (by omega)
  have a4 := numz_size (x := 8) ng.1 ng.2 (by omega) (by omega)
  have a5 := numz_size (x := 12) ns.1 ns.2 (by omega) (by omega)
  have a6 := numz_size (x := 12) nt.1 nt.2 (by omega) (by omega)
  simp only [Int.cast_ofNat_Int] at a1
  simp only [hdA, ByteArray.size_append]
  omega
theorem headB_size {e : Ent} {pf flag magic : ByteArray} (zl : e.link.size ≤ 100) (zus : e.user.size ≤ 32) (zgr : e.group.size ≤ 32) (zpf : pf.size ≤ 155) (zfl : flag.size = 1) (zmg : magic.size = 8) : (headB e pf flag magic).size = 356 := by
  have b1 := fill_exact zl (by omega)
  have b2 := fill_exact zus (by omega)
  have b3 := fill_exact zgr (by omega)
  have b4 := fill_exact zpf (by omega)
  have b5 := octz_exact (n := 0) (x := 8) (by omega) (by omega) (by omega) (by decide)
  have b6 := nulv_size 12
  simp only [Int.cast_ofNat_Int] at b1 b2 b3 b4 b5
  simp only [headB, ByteArray.size_append]
  omega
theorem hdv_size {e : Ent} {name pf flag magic : ByteArray} {size : Int} (zn : name.size ≤ 100) (nm : 0 ≤ e.mode ∧ e.mode ≤ 9007199254740991) (nu : 0 ≤ e.uid ∧ e.uid ≤ 9007199254740991) (ng : 0 ≤ e.gid ∧ e.gid ≤ 9007199254740991) (nt : 0 ≤ e.time ∧ e.time ≤ 9007199254740991) (ns : 0 ≤ size ∧ size ≤ 9007199254740991)
    (zl : e.link.size ≤ 100) (zus : e.user.size ≤ 32) (zgr : e.group.size ≤ 32) (zpf : pf.size ≤ 155) (zfl : flag.size = 1) (zmg : magic.size = 8) : (hdv e name pf flag size magic).size = 512 := by
  have hA := hdA_size (e := e) zn nm nu ng nt ns
  have hB := headB_size (e := e) zl zus zgr zpf zfl zmg
  have s1 := sumv_bd (hdA e name size).data.toList
  have s2 := sumv_bd (headB e pf flag magic).data.toList
  have l1 : (hdA e name size).data.toList.length = 148 := by simpa using hA
  have l2 : (headB e pf flag magic).data.toList.length = 356 := by simpa using hB
  have p6 : (8 : Nat) ^ 6 = 262144 := by decide
  obtain ⟨_, hz, _⟩ := oct_fits (n := sumv (hdA e name size).data.toList + 256 + sumv (headB e pf flag magic).data.toList) (k := 6) (by omega) (by omega) (by omega) (by omega)
  have hz' : (putOctv (sumv (hdA e name size).data.toList + 256 + sumv (headB e pf flag magic).data.toList) 6).1.size = 6 := hz
  simp only [hdv, ByteArray.size_append, hA, hB, hz']
  rfl
end Go.Proofs.YtgpgkgahbkmdiaaDoor

/- impl.block's methods put and putNumber by fields; impl.sumText; spec.l04Oct. -/
namespace Go.Proofs.YtgpgkgahbkmdiaaDoor
open Go.ChangeShapes Go.WideShapes Go.ChangeAt Go.RowKit

theorem l04Oct_spec (n width : Int) (w : World) (h1 : 1 ≤ width) (h2 : width ≤ 20) :
    Calls Tryd.prog 30 #[.int .i64 n, .int .i64 width] w fun e w' => e = .returned (.string (octz n width)) ∧ w = w' := by
  have H1 := Lib.hid (fun w => putOct_spec n (width - 1) w)
  have HE : Hid (octz n width = (putOctv n (width - 1)).1 ++ ⟨#[0]⟩) := Lib.hid rfl
  have hz := putOct_size n (width - 1)
  generalize octz n width = r at HE
  generalize putOctv n (width - 1) = pr at *
  obtain ⟨a, b⟩ := pr
  simp only at hz HE H1
  go_enter Tryd.func30, Tryd.ntmps30
  go_wp2_with fail
  refine (H1.out _).mono ?_
  rintro e w1 ⟨rfl, rfl⟩
  go_wp2
  go_ret
  exact ⟨ret_str HE.out.symm, rfl⟩
/-- A header in memory, by its fields. -/
def BlkF (w : World) (g : Nat) (F : List (List UInt8)) : Prop := WF F ∧ Blk w g (flat F)
theorem BlkF.below {w w' : World} {g B : Nat} {F : List (List UInt8)} (h : BlkF w g F) (hb : Below B w w') (hg : g < B) : BlkF w' g F := ⟨h.1, h.2.below hb hg⟩
theorem put_f (g k x : Nat) (F : List (List UInt8)) (s : ByteArray) (f : List UInt8) (w : World) (hk : k < 15) (hx : widths[k]? = some x) (hf : F[k]? = some f) (hs : s.size ≤ x) (hF : FW w) (hB : BlkF w g F) :
    Calls Tryd.prog 38 #[.pointer (some ⟨g, 0, none⟩), .int .i64 k, .string s] w fun e w' => e = .returned (.tuple #[]) ∧ BlkF w' g (F.set k (s.data.toList ++ f.drop s.size)) ∧ w'.heap.size = w.heap.size ∧ w.grownBy w' (some g) := by
  obtain ⟨f', hf', hl, ho⟩ := flat_at hB.1 hk hx
  obtain rfl : f' = f := by rw [hf'] at hf; exact Option.some.inj hf
  have hz : s.data.toList.length = s.size := by simp
  refine (put_anyG g k x (flat F) s w hk hx hs hF hB.2).mono ?_
  rintro e w' ⟨rfl, h1, h2, h3⟩
  rw [ho _ (by omega), hz] at h1
  exact ⟨rfl, ⟨hB.1.set hk hx (by simp; omega), h1⟩, h2, h3⟩
theorem putNum_z (g k x : Nat) (F : List (List UInt8)) (n : Int) (w : World) (hk : k < 15) (hx : widths[k]? = some x) (hx2 : 8 ≤ x) (hx3 : x ≤ 18) (hn : 0 ≤ n ∧ n ≤ 9007199254740991) (hf : F[k]? = some (nuls x)) (hT : Tabs w) (hF : FW w) (hB : BlkF w g F) :
    Calls Tryd.prog 39 #[.pointer (some ⟨g, 0, none⟩), .int .i64 k, .int .i64 n] w fun e w' => e = .returned (.tuple #[]) ∧ BlkF w' g (F.set k (numz n x).data.toList) ∧ w.heap.size ≤ w'.heap.size ∧ w.grownBy w' (some g) := by
  have hc := hF k x hx
  have H1 := Lib.hid (fun w h => putOct_impl n ((x : Int) - 1) w h)
  have H3 := Lib.hid (fun w => putBig_impl n x w)
  have hzz := numz_size hn.1 hn.2 hx2 (by omega)
  have HT := Lib.hid hT
  have HF := Lib.hid hF
  have HB := Lib.hid hB
  have hg : g < w.heap.size := hB.2.lt
  have hxx : (x : Int) ≤ 18 := by omega
  have hx8 : 8 ≤ (x : Int) := by omega
  have hkk : (k : Int) < 15 := by omega
  cases ho : (putOctv n ((x : Int) - 1)).2 with
  | true =>
    have hz : (putOctv n ((x : Int) - 1)).1.size = x - 1 := by
      have := (putOct_true ho).1
      omega
    have HO : Hid ((numz n x).data.toList = (putOctv n ((x : Int) - 1)).1.data.toList ++ (nuls x).drop (putOctv n ((x : Int) - 1)).1.size) := Lib.hid (by
      rw [hz, numz, if_pos ho, octz, ByteArray.data_append, Array.toList_append]
      congr 1
      simp only [nuls, List.drop_replicate, show x - (x - 1) = 1 from by omega]
      rfl)
    generalize numz n x = r at HO
    have H2 := Lib.hid (fun w hF hB => put_f g k x F (putOctv n ((x : Int) - 1)).1 (nuls x) w hk hx hf (by omega) hF hB)
    rw [← HO.out] at H2
    generalize putOctv n ((x : Int) - 1) = pr at *
    obtain ⟨a, b⟩ := pr
    simp only at H1 H2 hz ho
    subst ho
    clear hT hF hB hf hx HO H3 hzz
    go_enter Tryd.func39, Tryd.ntmps39
    go_wp2_with fail
    refine (H1.out _ HT.out).mono ?_
    rintro e w1 ⟨rfl, hb1⟩
    have F1 := Lib.hid (HF.out.below hb1)
    have B1 := Lib.hid (HB.out.below hb1 hg)
    have L1 := Lib.hid hb1
    clear hb1
    go_wp2_with fail
    refine (H2.out _ F1.out B1.out).mono ?_
    rintro e w2 ⟨rfl, hk2, hz2, hb2⟩
    have s1 := L1.out.size
    go_wp2
    refine bodyPost_end (results_none rfl _ _ _) rfl ?_
    exact ⟨rfl, hk2, by omega, grown_after (grown_of_below L1.out) hb2⟩
  | false =>
    have HO : Hid ((numz n x).data.toList = (putBigv n x).1.data.toList ++ (nuls x).drop (putBigv n x).1.size) := Lib.hid (by
      rw [(putBig_fits hn.1 hn.2 hx2 (by omega)).2, numz, if_neg (by rw [ho]; decide)]
      simp [nuls])
    have hz : (putBigv n x).1.size = x := (putBig_fits hn.1 hn.2 hx2 (by omega)).2
    generalize numz n x = r at HO
    have H2 := Lib.hid (fun w hF hB => put_f g k x F (putBigv n x).1 (nuls x) w hk hx hf (by omega) hF hB)
    rw [← HO.out] at H2
    generalize putOctv n ((x : Int) - 1) = pr at *
    obtain ⟨a, b⟩ := pr
    simp only at H1 ho
    subst ho
    generalize putBigv n x = pb at *
    obtain ⟨c, d⟩ := pb
    simp only at H2 H3 hz
    clear hT hF hB hf hx HO hzz
    go_enter Tryd.func39, Tryd.ntmps39
    go_wp2_with fail
    refine (H1.out _ HT.out).mono ?_
    rintro e w1 ⟨rfl, hb1⟩
    have F1 := Lib.hid (HF.out.below hb1)
    have B1 := Lib.hid (HB.out.below hb1 hg)
    have L1 := Lib.hid hb1
    clear hb1
    go_wp2_with fail
    refine (H3.out _).mono ?_
    rintro e w2 ⟨rfl, hb2⟩
    have F2 := Lib.hid (F1.out.below hb2)
    have B2 := Lib.hid (B1.out.below hb2 B1.out.2.lt)
    have L2 := Lib.hid (btE L1.out hb2)
    clear hb2
    go_wp2_with fail
    refine (H2.out _ F2.out B2.out).mono ?_
    rintro e w3 ⟨rfl, hk2, hz2, hb2⟩
    have s1 := L2.out.size
    go_wp2
    refine bodyPost_end (results_none rfl _ _ _) rfl ?_
    exact ⟨rfl, hk2, by omega, grown_after (grown_of_below L2.out) hb2⟩
theorem sumText_any (s : ByteArray) (w : World) (hs : s.size ≤ 1048576) (hT : Tabs w) (hF : FW w) :
    Calls Tryd.prog 40 #[.string s] w fun e w' => e = .returned (.string ((putOctv (headSumv s) 6).1 ++ ⟨#[0, 32]⟩)) ∧ Below w.heap.size w w' := by
  have H1 := Lib.hid (fun w h => headSum_impl s w hs h)
  have H2 := Lib.hid (fun w h => putOct_impl (headSumv s) 6 w h)
  have hz := putOct_size (headSumv s) 6
  generalize headSumv s = r at *
  generalize putOctv r 6 = pr at *
  obtain ⟨a, b⟩ := pr
  simp only at H2 hz
  have HT := Lib.hid hT
  have HF := Lib.hid hF
  clear hT hF
  go_enter Tryd.func40, Tryd.ntmps40
  go_wp2_with fail
  refine (H1.out _ HF.out).mono ?_
  rintro e w1 ⟨rfl, hb1⟩
  have T1 := Lib.hid (HT.out.below hb1)
  go_wp2_with fail
  refine (H2.out _ T1.out).mono ?_
  rintro e w2 ⟨rfl, hb2⟩
  go_wp2
  go_ret
  exact ⟨rfl, hb1.trans (hb2.mono hb1.size)⟩
end Go.Proofs.YtgpgkgahbkmdiaaDoor

/- An entry in a block of its own that may be written. -/
namespace Go.Proofs.YtgpgkgahbkmdiaaDoor
open Go.ChangeShapes Go.WideShapes Go.ChangeAt Go.RowKit Go.Deep

def EntO (w : World) (g : Nat) (e : Ent) : Prop := w.heap[g]? = some (.cells e.cells.toArray 26 (0, 0))
theorem EntO.new (w : World) (e : Ent) : EntO (w.alloc (.cells e.cells.toArray 26)) w.heap.size e := by
  show (w.heap.push _)[w.heap.size]? = _
  simp
theorem EntO.below {w w' : World} {g B : Nat} {e : Ent} (h : EntO w g e) (hb : Below B w w') (hg : g < B) : EntO w' g e := (hb.block g hg).trans h
theorem EntO.lt {w : World} {g : Nat} {e : Ent} (h : EntO w g e) : g < w.heap.size := (Array.getElem?_eq_some_iff.1 h).1
theorem EntO.at {w : World} {g : Nat} {e : Ent} (h : EntO w g e) : EntAt w g 0 e := fun i hi => by
  unfold EntO at h
  simp [World.cell?, h]
theorem EntO.fz {w : World} {g : Nat} {e : Ent} (h : EntO w g e) (i : Nat) : w.frozen? ⟨g, i, none⟩ = false := by
  unfold EntO at h
  simp [World.frozen?, h]
theorem EntO.grown {w w' : World} {g : Nat} {row : Option Nat} {e : Ent} (h : EntO w g e) (hb : w.grownBy w' row) (hg : some g ≠ row) : EntO w' g e := (hb.block g h.lt hg).trans h
theorem EntO.set {w : World} {g : Nat} {e e' : Ent} (h : EntO w g e) (i : Nat) (v : Value) (he : e.cells.toArray.setIfInBounds i v = e'.cells.toArray) : EntO (w.setCell ⟨g, i, none⟩ v) g e' := by
  have hlt := h.lt
  unfold EntO at h ⊢
  have hg : w.heap[g] = .cells e.cells.toArray 26 (0, 0) := (Array.getElem?_eq_some_iff.1 h).2
  simp [World.setCell, hlt, Array.getElem_modify, hg, he]
theorem EntO.other {w : World} {g b i : Nat} {e : Ent} {v : Value} (h : EntO w g e) (hne : g ≠ b) : EntO (w.setCell ⟨b, i, none⟩ v) g e := by
  unfold EntO
  rw [Below.heap_setCell _ _ _ g (fun e => hne e)]
  exact h
/-- A whole entry stored. -/
def putE (w : World) (g : Nat) (y : Ent) : World := ((((((((((w.setCell ⟨g, 0, none⟩ (.int .i64 y.kind)).setCell ⟨g, 1, none⟩ (.string y.path)).setCell ⟨g, 2, none⟩ (.string y.link)).setCell ⟨g, 3, none⟩ (.int .i64 y.mode)).setCell ⟨g, 4, none⟩ (.int .i64 y.uid)).setCell ⟨g, 5, none⟩ (.int .i64 y.gid)).setCell ⟨g, 6, none⟩ (.int .i64 y.time)).setCell ⟨g, 7, none⟩ (.string y.user)).setCell ⟨g, 8, none⟩ (.string y.group)).setCell ⟨g, 9, none⟩ (.string y.body))
theorem EntO.put {w : World} {g : Nat} {x : Ent} (h : EntO w g x) (y : Ent) : EntO (putE w g y) g y := (EntO.set (e' := ⟨y.kind, y.path, y.link, y.mode, y.uid, y.gid, y.time, y.user, y.group, y.body⟩) (EntO.set (e' := ⟨y.kind, y.path, y.link, y.mode, y.uid, y.gid, y.time, y.user, y.group, x.body⟩) (EntO.set (e' := ⟨y.kind, y.path, y.link, y.mode, y.uid, y.gid, y.time, y.user, x.group, x.body⟩) (EntO.set (e' := ⟨y.kind, y.path, y.link, y.mode, y.uid, y.gid, y.time, x.user, x.group, x.body⟩) (EntO.set (e' := ⟨y.kind, y.path, y.link, y.mode, y.uid, y.gid, x.time, x.user, x.group, x.body⟩) (EntO.set (e' := ⟨y.kind, y.path, y.link, y.mode, y.uid, x.gid, x.time, x.user, x.group, x.body⟩) (EntO.set (e' := ⟨y.kind, y.path, y.link, y.mode, x.uid, x.gid, x.time, x.user, x.group, x.body⟩) (EntO.set (e' := ⟨y.kind, y.path, y.link, x.mode, x.uid, x.gid, x.time, x.user, x.group, x.body⟩) (EntO.set (e' := ⟨y.kind, y.path, x.link, x.mode, x.uid, x.gid, x.time, x.user, x.group, x.body⟩) (EntO.set (e' := ⟨y.kind, x.path, x.link, x.mode, x.uid, x.gid, x.time, x.user, x.group, x.body⟩) h 0 (.int .i64 y.kind) rfl) 1 (.string y.path) rfl) 2 (.string y.link) rfl) 3 (.int .i64 y.mode) rfl) 4 (.int .i64 y.uid) rfl) 5 (.int .i64 y.gid) rfl) 6 (.int .i64 y.time) rfl) 7 (.string y.user) rfl) 8 (.string y.group) rfl) 9 (.string y.body) rfl)
theorem below_putE {w w' : World} {B g : Nat} (h : Below B w w') (hg : B ≤ g) (y : Ent) : Below B w (putE w' g y) := ((((((((((h.setCell (p := ⟨g, 0, none⟩) hg _).setCell (p := ⟨g, 1, none⟩) hg _).setCell (p := ⟨g, 2, none⟩) hg _).setCell (p := ⟨g, 3, none⟩) hg _).setCell (p := ⟨g, 4, none⟩) hg _).setCell (p := ⟨g, 5, none⟩) hg _).setCell (p := ⟨g, 6, none⟩) hg _).setCell (p := ⟨g, 7, none⟩) hg _).setCell (p := ⟨g, 8, none⟩) hg _).setCell (p := ⟨g, 9, none⟩) hg _)
theorem putE_other {w : World} {b g : Nat} {y : Ent} (hne : b ≠ g) : (putE w g y).heap[b]? = w.heap[b]? := by
  unfold putE
  repeat rw [Below.heap_setCell _ _ _ b (fun e => hne e)]
theorem grown_reflO (w : World) (row : Option Nat) : w.grownBy w row := ⟨rfl, rfl, rfl, Nat.le_refl _, fun _ _ _ => rfl⟩
theorem grown_setO {w w' : World} {g : Nat} (h : w.grownBy w' (some g)) (o : Nat) (v : Value) : w.grownBy (w'.setCell ⟨g, o, none⟩ v) (some g) :=
  ⟨h.os, h.tape, h.output, by simpa using h.size, fun k hk hne => (Below.heap_setCell w' _ v k (fun e => hne (by rw [e]))).trans (h.block k hk hne)⟩
theorem grown_putE (w : World) (g : Nat) (y : Ent) : w.grownBy (putE w g y) (some g) := (grown_setO (grown_setO (grown_setO (grown_setO (grown_setO (grown_setO (grown_setO (grown_setO (grown_setO (grown_setO (grown_reflO w (some g)) 0 _) 1 _) 2 _) 3 _) 4 _) 5 _) 6 _) 7 _) 8 _) 9 _)
theorem Tryd.sizeEntO : (Tryd.prog.info? 26).map (·.size) = some 10 := by kernel_rfl
theorem res_ent2 {fn : Func} {p u : Tmp} (h : fn.results = #[.cell p 26, .tmp u]) (tmps : Array Value) {w : World} {g : Nat} {e : Ent}
    (hp : tmps.getD p undef = .pointer (some ⟨g, 0, none⟩)) (hg : EntO w g e) :
    (results fn tmps).run Tryd.prog w = .ok (.tuple #[.agg e.cells.toArray, tmps.getD u undef]) w := by
  rw [results_cell_tmp h, hp]
  simp [asAddr, run_loadVar_row w g 26 26 e.cells.toArray (0, 0) _ hg Tryd.underlying26 rfl (by rw [Tryd.sizeEntO]; rfl), Result.andThen]
theorem res_ent1 {fn : Func} {p : Tmp} (h : fn.results = #[.cell p 26]) (tmps : Array Value) {w : World} {g : Nat} {e : Ent}
    (hp : tmps.getD p undef = .pointer (some ⟨g, 0, none⟩)) (hg : EntO w g e) :
    (results fn tmps).run Tryd.prog w = .ok (.agg e.cells.toArray) w :=
  results_cell_row h _ _ g _ e.cells.toArray (0, 0) _ hp hg Tryd.underlying26 rfl (by rw [Tryd.sizeEntO]; rfl)
end Go.Proofs.YtgpgkgahbkmdiaaDoor

/- What a header says (an entry, a flag and a size) in a block of its own. -/
namespace Go.Proofs.YtgpgkgahbkmdiaaDoor
open Go.ChangeShapes Go.WideShapes Go.ChangeAt Go.RowKit Go.Deep

def hdCells (e : Ent) (fl : ByteArray) (sz : Int) : List Value := [.int .i64 e.kind, .string e.path, .string e.link, .int .i64 e.mode, .int .i64 e.uid, .int .i64 e.gid, .int .i64 e.time, .string e.user, .string e.group, .string e.body, .string fl, .int .i64 sz]
def HdO (w : World) (g : Nat) (e : Ent) (fl : ByteArray) (sz : Int) : Prop := w.heap[g]? = some (.cells (hdCells e fl sz).toArray 39 (0, 0))
theorem HdO.new (w : World) (e : Ent) (fl : ByteArray) (sz : Int) : HdO (w.alloc (.cells (hdCells e fl sz).toArray 39)) w.heap.size e fl sz := by
  show (w.heap.push _)[w.heap.size]? = _
  simp
theorem HdO.below {w w' : World} {g B : Nat} {e : Ent} {fl : ByteArray} {sz : Int} (h : HdO w g e fl sz) (hb : Below B w w') (hg : g < B) : HdO w' g e fl sz := (hb.block g hg).trans h
theorem HdO.lt {w : World} {g : Nat} {e : Ent} {fl : ByteArray} {sz : Int} (h : HdO w g e fl sz) : g < w.heap.size := (Array.getElem?_eq_some_iff.1 h).1
theorem HdO.grown {w w' : World} {g : Nat} {row : Option Nat} {e : Ent} {fl : ByteArray} {sz : Int} (h : HdO w g e fl sz) (hb : w.grownBy w' row) (hg : some g ≠ row) : HdO w' g e fl sz := (hb.block g h.lt hg).trans h
theorem HdO.fz {w : World} {g : Nat} {e : Ent} {fl : ByteArray} {sz : Int} (h : HdO w g e fl sz) (i : Nat) : w.frozen? ⟨g, i, none⟩ = false := by
  unfold HdO at h
  simp [World.frozen?, h]
theorem HdO.at {w : World} {g : Nat} {e : Ent} {fl : ByteArray} {sz : Int} (h : HdO w g e fl sz) : EntAt w g 0 e := fun i hi => by
  unfold HdO at h
  have : i = 0 ∨ i = 1 ∨ i = 2 ∨ i = 3 ∨ i = 4 ∨ i = 5 ∨ i = 6 ∨ i = 7 ∨ i = 8 ∨ i = 9 := by omega
  rcases this with rfl | rfl | rfl | rfl | rfl | rfl | rfl | rfl | rfl | rfl <;> simp [World.cell?, h, hdCells, Ent.cells]
theorem HdO.two {w : World} {g : Nat} {e : Ent} {fl : ByteArray} {sz : Int} (h : HdO w g e fl sz) : w.cell? ⟨g, 10, none⟩ = some (.string fl) ∧ w.cell? ⟨g, 11, none⟩ = some (.int .i64 sz) := by
  unfold HdO at h
  constructor <;> simp [World.cell?, h, hdCells]
theorem HdO.ent {w : World} {g : Nat} {e : Ent} {fl : ByteArray} {sz : Int} (h : HdO w g e fl sz) : (loadVar 26 ⟨g, 0, none⟩).run Tryd.prog w = .ok (.agg e.cells.toArray) w := by
  refine run_loadVar_mid _ _ 0 _ _ _ ?_ Tryd.underlying26 rfl (by rw [Tryd.sizeEntO]; rfl)
  intro j v hv
  have hj : j < 10 := by
    have := (List.getElem?_eq_some_iff.1 hv).1
    simpa [Ent.cells] using this
  rw [Nat.zero_add]
  have := h.at j hj
  rw [Nat.zero_add] at this
  rw [this, hv]
theorem Tryd.sizeHdO : (Tryd.prog.info? 39).map (·.size) = some 12 := by kernel_rfl
theorem HdO.all {w : World} {g : Nat} {e : Ent} {fl : ByteArray} {sz : Int} (h : HdO w g e fl sz) : (loadVar 39 ⟨g, 0, none⟩).run Tryd.prog w = .ok (.agg (hdCells e fl sz).toArray) w :=
  run_loadVar_row w g 39 39 (hdCells e fl sz).toArray (0, 0) _ h Tryd.underlying39 rfl (by rw [Tryd.sizeHdO]; rfl)
theorem HdO.set {w : World} {g : Nat} {e e' : Ent} {fl fl' : ByteArray} {sz sz' : Int} (h : HdO w g e fl sz) (i : Nat) (v : Value) (he : (hdCells e fl sz).toArray.setIfInBounds i v = (hdCells e' fl' sz').toArray) : HdO (w.setCell ⟨g, i, none⟩ v) g e' fl' sz' := by
  have hlt := h.lt
  unfold HdO at h ⊢
  have hg : w.heap[g] = .cells (hdCells e fl sz).toArray 39 (0, 0) := (Array.getElem?_eq_some_iff.1 h).2
  simp [World.setCell, hlt, Array.getElem_modify, hg, he]
end Go.Proofs.YtgpgkgahbkmdiaaDoor

/- Contract of impl.headText: a header by its texts, whatever its numbers. -/
namespace Go.Proofs.YtgpgkgahbkmdiaaDoor
open Go.ChangeShapes Go.WideShapes Go.ChangeAt Go.RowKit Go.Deep

theorem put_t (g k x : Nat) (F : List (List UInt8)) (s : ByteArray) (w : World) (hk : k < 15) (hx : widths[k]? = some x) (hf : F[k]? = some (nuls x)) (hs : s.size ≤ x) (hF : FW w) (hB : BlkF w g F) :
    Calls Tryd.prog 38 #[.pointer (some ⟨g, 0, none⟩), .int .i64 k, .string s] w fun e w' => e = .returned (.tuple #[]) ∧ BlkF w' g (F.set k (fillv s x).data.toList) ∧ w.heap.size ≤ w'.heap.size ∧ w.grownBy w' (some g) := by
  refine (put_f g k x F s (nuls x) w hk hx hf hs hF hB).mono ?_
  obtain ⟨y, hy, y1, y2, _⟩ := widths_at hk
  obtain rfl : y = x := by rw [hy] at hx; exact Option.some.inj hx
  rw [fill_short hs (by omega)]
  rintro e w' ⟨rfl, h1, h2, h3⟩
  rw [show (nuls y).drop s.size = nuls (y - s.size) from by simp [nuls]] at h1
  exact ⟨rfl, h1, by omega, h3⟩
def F0 : List (List UInt8) := widths.map nuls ++ [nuls 12]
theorem F0_wf : WF F0 := by
  show F0.map List.length = widths ++ [12]
  decide
theorem F0_flat : flat F0 = zeros512 := by decide +kernel
theorem head_sum {X Y : List UInt8} (hX : X.length = 148) (hY : Y.length = 356) : headSumv ⟨(X ++ nuls 8 ++ Y).toArray⟩ = sumv X + 256 + sumv Y := by
  have hl : (X ++ nuls 8 ++ Y).length = 512 := by simp [nuls, hX, hY]
  rw [headSumv, if_neg (by rw [ba_size, hl]; omega)]
  have e1 : ((X ++ nuls 8 ++ Y).take 512) = X ++ nuls 8 ++ Y := List.take_of_length_le (by omega)
  have e2 : (X ++ nuls 8 ++ Y).take 148 = X := by rw [List.append_assoc, ← hX]; simp
  have e3 : (X ++ nuls 8 ++ Y).drop 156 = Y := by
    have : (X ++ nuls 8).length = 156 := by simp [nuls, hX]
    rw [← this]; simp
  show sumv ((X ++ nuls 8 ++ Y).take 148) + 256 + sumv (((X ++ nuls 8 ++ Y).take 512).drop 156) = _
  rw [e1, e2, e3]
/-- The numbers of an entry that fits have their digits. -/
theorem fits_nums {e : Ent} (h : fitsv e = true) : (0 ≤ e.mode ∧ e.mode ≤ 4095) ∧ (0 ≤ e.uid ∧ e.uid ≤ 2097151) ∧ (0 ≤ e.gid ∧ e.gid ≤ 2097151) ∧ (0 ≤ e.time ∧ e.time ≤ 8589934591) ∧ e.link.size ≤ 100 ∧ e.user.size ≤ 32 ∧ e.group.size ≤ 32 ∧ splitOk e.path = true := by
  simp only [fitsv, entOkv, Bool.and_eq_true, decide_eq_true_eq, inB, whov] at h
  exact ⟨by omega, by omega, by omega, by omega, by omega, by omega, by omega, h.1.1.1.1.2⟩
theorem split_sizes {s : ByteArray} (h : splitOk s = true) : (splitN s).size ≤ 100 ∧ (splitP s).size ≤ 155 := by
  simp only [splitOk, Bool.and_eq_true, Bool.or_eq_true, decide_eq_true_eq] at h
  by_cases hs : s.size ≤ 100
  · obtain ⟨_, h2, h3⟩ := split_short h.1 hs
    rw [h2, h3]
    exact ⟨hs, by decide⟩
  · have hl : slashv s ≤ 155 := h.2.resolve_left hs
    obtain ⟨_, h2, h3⟩ := split_long h.1 (by omega) hl
    obtain ⟨_, hge, hlt, _⟩ := slash_there h.1 (by omega)
    rw [h2, h3, ByteArray.size_extract, ByteArray.size_extract]
    omega

set_option maxHeartbeats 6400000 in
set_option maxRecDepth 8000 in
theorem headText_impl (k : Int) (p l : ByteArray) (m u g t : Int) (us gr b fl : ByteArray) (sz : Int) (sp mg : ByteArray) (w : World) (zp : p.size ≤ 100) (zl : l.size ≤ 100) (zus : us.size ≤ 32) (zgr : gr.size ≤ 32) (zfl : fl.size = 1) (zsp : sp.size ≤ 155) (zmg : mg.size = 8) (nm : 0 ≤ m ∧ m ≤ 9007199254740991) (nu : 0 ≤ u ∧ u ≤ 9007199254740991) (ng : 0 ≤ g ∧ g ≤ 9007199254740991) (nt : 0 ≤ t ∧ t ≤ 9007199254740991) (ns : 0 ≤ sz ∧ sz ≤ 9007199254740991) (hT : Tabs w) (hF : FW w) :
    Calls Tryd.prog 21 #[.agg #[.int .i64 k, .string p, .string l, .int .i64 m, .int .i64 u, .int .i64 g, .int .i64 t, .string us, .string gr, .string b, .string fl, .int .i64 sz], .string sp, .string mg] w fun e w' => e = .returned (.string (hdv ⟨k, p, l, m, u, g, t, us, gr, b⟩ p sp fl sz mg)) ∧ Below w.heap.size w w' := by
  have HA : Hid ((hdA ⟨k, p, l, m, u, g, t, us, gr, b⟩ p sz).data.toList = (fillv p 100).data.toList ++ (numz m 8).data.toList ++ (numz u 8).data.toList ++ (numz g 8).data.toList ++ (numz sz 12).data.toList ++ (numz t 12).data.toList) := Lib.hid (by simp [hdA])
  have HB : Hid ((headB ⟨k, p, l, m, u, g, t, us, gr, b⟩ sp fl mg).data.toList = fl.data.toList ++ (fillv l 100).data.toList ++ mg.data.toList ++ (fillv us 32).data.toList ++ (fillv gr 32).data.toList ++ (numz 0 8).data.toList ++ (numz 0 8).data.toList ++ (fillv sp 155).data.toList ++ nuls 12) := Lib.hid (by
    rw [numz_oct (n := 0) (x := 8) (by omega) (by omega) (by omega) (by decide)]
    simp [headB, nulv])
  have HV : Hid (hdv ⟨k, p, l, m, u, g, t, us, gr, b⟩ p sp fl sz mg = hdA ⟨k, p, l, m, u, g, t, us, gr, b⟩ p sz ++ (putOctv (sumv (hdA ⟨k, p, l, m, u, g, t, us, gr, b⟩ p sz).data.toList + 256 + sumv (headB ⟨k, p, l, m, u, g, t, us, gr, b⟩ sp fl mg).data.toList) 6).1 ++ ⟨#[0, 32]⟩ ++ headB ⟨k, p, l, m, u, g, t, us, gr, b⟩ sp fl mg) := Lib.hid rfl
  generalize hdv ⟨k, p, l, m, u, g, t, us, gr, b⟩ p sp fl sz mg = r at HV
  generalize hdA ⟨k, p, l, m, u, g, t, us, gr, b⟩ p sz = hA at HA HV
  generalize headB ⟨k, p, l, m, u, g, t, us, gr, b⟩ sp fl mg = hB at HB HV
  have hz := fun w => zero_blk w
  have HF := Lib.hid hF
  have HT := Lib.hid hT
  have HD0 := Lib.hid (HdO.new w ⟨k, p, l, m, u, g, t, us, gr, b⟩ fl sz)
  have HB0 := Lib.hid ((Below.refl w.heap.size w).alloc (Nat.le_refl _) (.cells (hdCells ⟨k, p, l, m, u, g, t, us, gr, b⟩ fl sz).toArray 39))
  have Hlt0 := HD0.out.lt
  simp only [hdCells] at HD0 HB0 Hlt0
  clear hF hT
  have K0 := Lib.hid (fun w1 => Blk.new w1 (flat F0) (by rw [F0_flat]; exact List.length_replicate))
  rw [F0_flat] at K0
  generalize (Lib.byteCells zeros512).toArray = Z at hz K0
  go_enter Tryd.func21, Tryd.ntmps21
  go_wp2_with fail
  have hs0 : (w.alloc (.cells #[.int .i64 k, .string p, .string l, .int .i64 m, .int .i64 u, .int .i64 g, .int .i64 t, .string us, .string gr, .string b, .string fl, .int .i64 sz] 39)).heap.size = w.heap.size + 1 := by simp
  generalize w.alloc (.cells #[.int .i64 k, .string p, .string l, .int .i64 m, .int .i64 u, .int .i64 g, .int .i64 t, .string us, .string gr, .string b, .string fl, .int .i64 sz] 39) = w1 at *
  have hs1 : w1.heap.size = w.heap.size + 1 := hs0
  clear hs0
  have B := Lib.hid (((HB0.out.alloc (by omega) (.cells Z 53)).alloc (by simp; omega) (.cells (Ent.cells ⟨k, p, l, m, u, g, t, us, gr, b⟩).toArray 26)))
  have E1 := Lib.hid (EntO.new (w1.alloc (.cells Z 53)) ⟨k, p, l, m, u, g, t, us, gr, b⟩)
  have HD := Lib.hid (HD0.out.below ((Below.refl w1.heap.size w1).alloc (Nat.le_refl _) (.cells Z 53)) Hlt0)
  have HD2 := Lib.hid (HD.out.below ((Below.refl (w1.alloc (.cells Z 53)).heap.size (w1.alloc (.cells Z 53))).alloc (Nat.le_refl _) (.cells (Ent.cells ⟨k, p, l, m, u, g, t, us, gr, b⟩).toArray 26)) HD.out.lt)
  have K1 := Lib.hid ((K0.out w1).below ((Below.refl (w1.alloc (.cells Z 53)).heap.size (w1.alloc (.cells Z 53))).alloc (Nat.le_refl _) (.cells (Ent.cells ⟨k, p, l, m, u, g, t, us, gr, b⟩).toArray 26)) (by simp))
  rw [show (w1.alloc (.cells Z 53)).heap.size = w.heap.size + 1 + 1 from by simp [hs1]] at E1
  rw [hs1] at K1
  replace HD := HD2
  clear HD2 HD0 HB0 Hlt0 K0
  simp only [Ent.cells] at B E1 HD K1
  generalize (w1.alloc (.cells Z 53)).alloc (.cells #[.int .i64 k, .string p, .string l, .int .i64 m, .int .i64 u, .int .i64 g, .int .i64 t, .string us, .string gr, .string b] 26) = w2 at *
  have K := Lib.hid (show BlkF w2 (w.heap.size + 1) [nuls 100, nuls 8, nuls 8, nuls 8, nuls 12, nuls 12, nuls 8, nuls 1, nuls 100, nuls 8, nuls 32, nuls 32, nuls 8, nuls 8, nuls 155, nuls 12] from ⟨F0_wf, by show Blk w2 _ (flat F0); rw [F0_flat]; exact K1.out⟩)
  clear K1 hz
  refine (put_t (w.heap.size + 1) 0 100 [nuls 100, nuls 8, nuls 8, nuls 8, nuls 12, nuls 12, nuls 8, nuls 1, nuls 100, nuls 8, nuls 32, nuls 32, nuls 8, nuls 8, nuls 155, nuls 12] p _ (by omega) rfl rfl (by omega) (HF.out.below B.out) K.out).mono ?_
  rintro e w' ⟨rfl, hk, -, hb⟩
  replace B := Lib.hid (B.out.trans (grown_below hb (by omega) K.out.2.lt))
  replace E1 := Lib.hid (E1.out.grown hb (by simp))
  replace HD := Lib.hid (HD.out.grown hb (by simp))
  replace K := Lib.hid (show BlkF w' _ [(fillv p 100).data.toList, nuls 8, nuls 8, nuls 8, nuls 12, nuls 12, nuls 8, nuls 1, nuls 100, nuls 8, nuls 32, nuls 32, nuls 8, nuls 8, nuls 155, nuls 12] from hk)
  clear hk hb
  obtain ⟨_, _, _, c3, _, _, _, _, _, _⟩ := (E1.out.at).zero
  go_wp2_with fail
  refine (putNum_z (w.heap.size + 1) 1 8 [(fillv p 100).data.toList, nuls 8, nuls 8, nuls 8, nuls 12, nuls 12, nuls 8, nuls 1, nuls 100, nuls 8, nuls 32, nuls 32, nuls 8, nuls 8, nuls 155, nuls 12] m _ (by omega) rfl (by omega) (by omega) nm rfl (HT.out.below B.out) (HF.out.below B.out) K.out).mono ?_
  rintro e w' ⟨rfl, hk, -, hb⟩
  replace B := Lib.hid (B.out.trans (grown_below hb (by omega) K.out.2.lt))
  replace E1 := Lib.hid (E1.out.grown hb (by simp))
  replace HD := Lib.hid (HD.out.grown hb (by simp))
  replace K := Lib.hid (show BlkF w' _ [(fillv p 100).data.toList, (numz m 8).data.toList, nuls 8, nuls 8, nuls 12, nuls 12, nuls 8, nuls 1, nuls 100, nuls 8, nuls 32, nuls 32, nuls 8, nuls 8, nuls 155, nuls 12] from hk)
  clear hk hb c3
  obtain ⟨_, _, _, _, c4, _, _, _, _, _⟩ := (E1.out.at).zero
  go_wp2_with fail
  refine (putNum_z (w.heap.size + 1) 2 8 [(fillv p 100).data.toList, (numz m 8).data.toList, nuls 8, nuls 8, nuls 12, nuls 12, nuls 8, nuls 1, nuls 100, nuls 8, nuls 32, nuls 32, nuls 8, nuls 8, nuls 155, nuls 12] u _ (by omega) rfl (by omega) (by omega) nu rfl (HT.out.below B.out) (HF.out.below B.out) K.out).mono ?_
  rintro e w' ⟨rfl, hk, -, hb⟩
  replace B := Lib.hid (B.out.trans (grown_below hb (by omega) K.out.2.lt))
  replace E1 := Lib.hid (E1.out.grown hb (by simp))
  replace HD := Lib.hid (HD.out.grown hb (by simp))
  replace K := Lib.hid (show BlkF w' _ [(fillv p 100).data.toList, (numz m 8).data.toList, (numz u 8).data.toList, nuls 8, nuls 12, nuls 12, nuls 8, nuls 1, nuls 100, nuls 8, nuls 32, nuls 32, nuls 8, nuls 8, nuls 155, nuls 12] from hk)
  clear hk hb c4
  obtain ⟨_, _, _, _, _, c5, _, _, _, _⟩ := (E1.out.at).zero
  go_wp2_with fail
  refine (putNum_z (w.heap.size + 1) 3 8 [(fillv p 100).data.toList, (numz m 8).data.toList, (numz u 8).data.toList, nuls 8, nuls 12, nuls 12, nuls 8, nuls 1, nuls 100, nuls 8, nuls 32, nuls 32, nuls 8, nuls 8, nuls 155, nuls 12] g _ (by omega) rfl (by omega) (by omega) ng rfl (HT.out.below B.out) (HF.out.below B.out) K.out).mono ?_
  rintro e w' ⟨rfl, hk, -, hb⟩
  replace B := Lib.hid (B.out.trans (grown_below hb (by omega) K.out.2.lt))
  replace E1 := Lib.hid (E1.out.grown hb (by simp))
  replace HD := Lib.hid (HD.out.grown hb (by simp))
  replace K := Lib.hid (show BlkF w' _ [(fillv p 100).data.toList, (numz m 8).data.toList, (numz u 8).data.toList, (numz g 8).data.toList, nuls 12, nuls 12, nuls 8, nuls 1, nuls 100, nuls 8, nuls 32, nuls 32, nuls 8, nuls 8, nuls 155, nuls 12] from hk)
  clear hk hb c5
  obtain ⟨_, c11⟩ := HD.out.two
  go_wp2_with fail
  refine (putNum_z (w.heap.size + 1) 4 12 [(fillv p 100).data.toList, (numz m 8).data.toList, (numz u 8).data.toList, (numz g 8).data.toList, nuls 12, nuls 12, nuls 8, nuls 1, nuls 100, nuls 8, nuls 32, nuls 32, nuls 8, nuls 8, nuls 155, nuls 12] sz _ (by omega) rfl (by omega) (by omega) ns rfl (HT.out.below B.out) (HF.out.below B.out) K.out).mono ?_
  rintro e w' ⟨rfl, hk, -, hb⟩
  replace B := Lib.hid (B.out.trans (grown_below hb (by omega) K.out.2.lt))
  replace E1 := Lib.hid (E1.out.grown hb (by simp))
  replace HD := Lib.hid (HD.out.grown hb (by simp))
  replace K := Lib.hid (show BlkF w' _ [(fillv p 100).data.toList, (numz m 8).data.toList, (numz u 8).data.toList, (numz g 8).data.toList, (numz sz 12).data.toList, nuls 12, nuls 8, nuls 1, nuls 100, nuls 8, nuls 32, nuls 32, nuls 8, nuls 8, nuls 155, nuls 12] from hk)
  clear hk hb c11
  obtain ⟨_, _, _, _, _, _, c6, _, _, _⟩ := (E1.out.at).zero
  go_wp2_with fail
  refine (putNum_z (w.heap.size + 1) 5 12 [(fillv p 100).data.toList, (numz m 8).data.toList, (numz u 8).data.toList, (numz g 8).data.toList, (numz sz 12).data.toList, nuls 12, nuls 8, nuls 1, nuls 100, nuls 8, nuls 32, nuls 32, nuls 8, nuls 8, nuls 155, nuls 12] t _ (by omega) rfl (by omega) (by omega) nt rfl (HT.out.below B.out) (HF.out.below B.out) K.out).mono ?_
  rintro e w' ⟨rfl, hk, -, hb⟩
  replace B := Lib.hid (B.out.trans (grown_below hb (by omega) K.out.2.lt))
  replace E1 := Lib.hid (E1.out.grown hb (by simp))
  replace HD := Lib.hid (HD.out.grown hb (by simp))
  replace K := Lib.hid (show BlkF w' _ [(fillv p 100).data.toList, (numz m 8).data.toList, (numz u 8).data.toList, (numz g 8).data.toList, (numz sz 12).data.toList, (numz t 12).data.toList, nuls 8, nuls 1, nuls 100, nuls 8, nuls 32, nuls 32, nuls 8, nuls 8, nuls 155, nuls 12] from hk)
  clear hk hb c6
  obtain ⟨c10, _⟩ := HD.out.two
  go_wp2_with fail
  refine (put_t (w.heap.size + 1) 7 1 [(fillv p 100).data.toList, (numz m 8).data.toList, (numz u 8).data.toList, (numz g 8).data.toList, (numz sz 12).data.toList, (numz t 12).data.toList, nuls 8, nuls 1, nuls 100, nuls 8, nuls 32, nuls 32, nuls 8, nuls 8, nuls 155, nuls 12] fl _ (by omega) rfl rfl (by omega) (HF.out.below B.out) K.out).mono ?_
  rintro e w' ⟨rfl, hk, -, hb⟩
  replace B := Lib.hid (B.out.trans (grown_below hb (by omega) K.out.2.lt))
  replace E1 := Lib.hid (E1.out.grown hb (by simp))
  replace HD := Lib.hid (HD.out.grown hb (by simp))
  replace K := Lib.hid (show BlkF w' _ [(fillv p 100).data.toList, (numz m 8).data.toList, (numz u 8).data.toList, (numz g 8).data.toList, (numz sz 12).data.toList, (numz t 12).data.toList, nuls 8, (fillv fl 1).data.toList, nuls 100, nuls 8, nuls 32, nuls 32, nuls 8, nuls 8, nuls 155, nuls 12] from hk)
  clear hk hb c10
  obtain ⟨_, _, c2, _, _, _, _, _, _, _⟩ := (E1.out.at).zero
  go_wp2_with fail
  refine (put_t (w.heap.size + 1) 8 100 [(fillv p 100).data.toList, (numz m 8).data.toList, (numz u 8).data.toList, (numz g 8).data.toList, (numz sz 12).data.toList, (numz t 12).data.toList, nuls 8, (fillv fl 1).data.toList, nuls 100, nuls 8, nuls 32, nuls 32, nuls 8, nuls 8, nuls 155, nuls 12] l _ (by omega) rfl rfl (by omega) (HF.out.below B.out) K.out).mono ?_
  rintro e w' ⟨rfl, hk, -, hb⟩
  replace B := Lib.hid (B.out.trans (grown_below hb (by omega) K.out.2.lt))
  replace E1 := Lib.hid (E1.out.grown hb (by simp))
  replace HD := Lib.hid (HD.out.grown hb (by simp))
  replace K := Lib.hid (show BlkF w' _ [(fillv p 100).data.toList, (numz m 8).data.toList, (numz u 8).data.toList, (numz g 8).data.toList, (numz sz 12).data.toList, (numz t 12).data.toList, nuls 8, (fillv fl 1).data.toList, (fillv l 100).data.toList, nuls 8, nuls 32, nuls 32, nuls 8, nuls 8, nuls 155, nuls 12] from hk)
  clear hk hb c2
  go_wp2_with fail
  refine (put_t (w.heap.size + 1) 9 8 [(fillv p 100).data.toList, (numz m 8).data.toList, (numz u 8).data.toList, (numz g 8).data.toList, (numz sz 12).data.toList, (numz t 12).data.toList, nuls 8, (fillv fl 1).data.toList, (fillv l 100).data.toList, nuls 8, nuls 32, nuls 32, nuls 8, nuls 8, nuls 155, nuls 12] mg _ (by omega) rfl rfl (by omega) (HF.out.below B.out) K.out).mono ?_
  rintro e w' ⟨rfl, hk, -, hb⟩
  replace B := Lib.hid (B.out.trans (grown_below hb (by omega) K.out.2.lt))
  replace E1 := Lib.hid (E1.out.grown hb (by simp))
  replace HD := Lib.hid (HD.out.grown hb (by simp))
  replace K := Lib.hid (show BlkF w' _ [(fillv p 100).data.toList, (numz m 8).data.toList, (numz u 8).data.toList, (numz g 8).data.toList, (numz sz 12).data.toList, (numz t 12).data.toList, nuls 8, (fillv fl 1).data.toList, (fillv l 100).data.toList, (fillv mg 8).data.toList, nuls 32, nuls 32, nuls 8, nuls 8, nuls 155, nuls 12] from hk)
  clear hk hb
  obtain ⟨_, _, _, _, _, _, _, c7, _, _⟩ := (E1.out.at).zero
  go_wp2_with fail
  refine (put_t (w.heap.size + 1) 10 32 [(fillv p 100).data.toList, (numz m 8).data.toList, (numz u 8).data.toList, (numz g 8).data.toList, (numz sz 12).data.toList, (numz t 12).data.toList, nuls 8, (fillv fl 1).data.toList, (fillv l 100).data.toList, (fillv mg 8).data.toList, nuls 32, nuls 32, nuls 8, nuls 8, nuls 155, nuls 12] us _ (by omega) rfl rfl (by omega) (HF.out.below B.out) K.out).mono ?_
  rintro e w' ⟨rfl, hk, -, hb⟩
  replace B := Lib.hid (B.out.trans (grown_below hb (by omega) K.out.2.lt))
  replace E1 := Lib.hid (E1.out.grown hb (by simp))
  replace HD := Lib.hid (HD.out.grown hb (by simp))
  replace K := Lib.hid (show BlkF w' _ [(fillv p 100).data.toList, (numz m 8).data.toList, (numz u 8).data.toList, (numz g 8).data.toList, (numz sz 12).data.toList, (numz t 12).data.toList, nuls 8, (fillv fl 1).data.toList, (fillv l 100).data.toList, (fillv mg 8).data.toList, (fillv us 32).data.toList, nuls 32, nuls 8, nuls 8, nuls 155, nuls 12] from hk)
  clear hk hb c7
  obtain ⟨_, _, _, _, _, _, _, _, c8, _⟩ := (E1.out.at).zero
  go_wp2_with fail
  refine (put_t (w.heap.size + 1) 11 32 [(fillv p 100).data.toList, (numz m 8).data.toList, (numz u 8).data.toList, (numz g 8).data.toList, (numz sz 12).data.toList, (numz t 12).data.toList, nuls 8, (fillv fl 1).data.toList, (fillv l 100).data.toList, (fillv mg 8).data.toList, (fillv us 32).data.toList, nuls 32, nuls 8, nuls 8, nuls 155, nuls 12] gr _ (by omega) rfl rfl (by omega) (HF.out.below B.out) K.out).mono ?_
  rintro e w' ⟨rfl, hk, -, hb⟩
  replace B := Lib.hid (B.out.trans (grown_below hb (by omega) K.out.2.lt))
  replace E1 := Lib.hid (E1.out.grown hb (by simp))
  replace HD := Lib.hid (HD.out.grown hb (by simp))
  replace K := Lib.hid (show BlkF w' _ [(fillv p 100).data.toList, (numz m 8).data.toList, (numz u 8).data.toList, (numz g 8).data.toList, (numz sz 12).data.toList, (numz t 12).data.toList, nuls 8, (fillv fl 1).data.toList, (fillv l 100).data.toList, (fillv mg 8).data.toList, (fillv us 32).data.toList, (fillv gr 32).data.toList, nuls 8, nuls 8, nuls 155, nuls 12] from hk)
  clear hk hb c8
  go_wp2_with fail
  refine (putNum_z (w.heap.size + 1) 12 8 [(fillv p 100).data.toList, (numz m 8).data.toList, (numz u 8).data.toList, (numz g 8).data.toList, (numz sz 12).data.toList, (numz t 12).data.toList, nuls 8, (fillv fl 1).data.toList, (fillv l 100).data.toList, (fillv mg 8).data.toList, (fillv us 32).data.toList, (fillv gr 32).data.toList, nuls 8, nuls 8, nuls 155, nuls 12] 0 _ (by omega) rfl (by omega) (by omega) (by omega) rfl (HT.out.below B.out) (HF.out.below B.out) K.out).mono ?_
  rintro e w' ⟨rfl, hk, -, hb⟩
  replace B := Lib.hid (B.out.trans (grown_below hb (by omega) K.out.2.lt))
  replace E1 := Lib.hid (E1.out.grown hb (by simp))
  replace HD := Lib.hid (HD.out.grown hb (by simp))
  replace K := Lib.hid (show BlkF w' _ [(fillv p 100).data.toList, (numz m 8).data.toList, (numz u 8).data.toList, (numz g 8).data.toList, (numz sz 12).data.toList, (numz t 12).data.toList, nuls 8, (fillv fl 1).data.toList, (fillv l 100).data.toList, (fillv mg 8).data.toList, (fillv us 32).data.toList, (fillv gr 32).data.toList, (numz 0 8).data.toList, nuls 8, nuls 155, nuls 12] from hk)
  clear hk hb
  go_wp2_with fail
  refine (putNum_z (w.heap.size + 1) 13 8 [(fillv p 100).data.toList, (numz m 8).data.toList, (numz u 8).data.toList, (numz g 8).data.toList, (numz sz 12).data.toList, (numz t 12).data.toList, nuls 8, (fillv fl 1).data.toList, (fillv l 100).data.toList, (fillv mg 8).data.toList, (fillv us 32).data.toList, (fillv gr 32).data.toList, (numz 0 8).data.toList, nuls 8, nuls 155, nuls 12] 0 _ (by omega) rfl (by omega) (by omega) (by omega) rfl (HT.out.below B.out) (HF.out.below B.out) K.out).mono ?_
  rintro e w' ⟨rfl, hk, -, hb⟩
  replace B := Lib.hid (B.out.trans (grown_below hb (by omega) K.out.2.lt))
  replace E1 := Lib.hid (E1.out.grown hb (by simp))
  replace HD := Lib.hid (HD.out.grown hb (by simp))
  replace K := Lib.hid (show BlkF w' _ [(fillv p 100).data.toList, (numz m 8).data.toList, (numz u 8).data.toList, (numz g 8).data.toList, (numz sz 12).data.toList, (numz t 12).data.toList, nuls 8, (fillv fl 1).data.toList, (fillv l 100).data.toList, (fillv mg 8).data.toList, (fillv us 32).data.toList, (fillv gr 32).data.toList, (numz 0 8).data.toList, (numz 0 8).data.toList, nuls 155, nuls 12] from hk)
  clear hk hb
  go_wp2_with fail
  refine (put_t (w.heap.size + 1) 14 155 [(fillv p 100).data.toList, (numz m 8).data.toList, (numz u 8).data.toList, (numz g 8).data.toList, (numz sz 12).data.toList, (numz t 12).data.toList, nuls 8, (fillv fl 1).data.toList, (fillv l 100).data.toList, (fillv mg 8).data.toList, (fillv us 32).data.toList, (fillv gr 32).data.toList, (numz 0 8).data.toList, (numz 0 8).data.toList, nuls 155, nuls 12] sp _ (by omega) rfl rfl (by omega) (HF.out.below B.out) K.out).mono ?_
  rintro e w' ⟨rfl, hk, -, hb⟩
  replace B := Lib.hid (B.out.trans (grown_below hb (by omega) K.out.2.lt))
  replace E1 := Lib.hid (E1.out.grown hb (by simp))
  replace HD := Lib.hid (HD.out.grown hb (by simp))
  replace K := Lib.hid (show BlkF w' _ [(fillv p 100).data.toList, (numz m 8).data.toList, (numz u 8).data.toList, (numz g 8).data.toList, (numz sz 12).data.toList, (numz t 12).data.toList, nuls 8, (fillv fl 1).data.toList, (fillv l 100).data.toList, (fillv mg 8).data.toList, (fillv us 32).data.toList, (fillv gr 32).data.toList, (numz 0 8).data.toList, (numz 0 8).data.toList, (fillv sp 155).data.toList, nuls 12] from hk)
  clear hk hb
  have e7 : fillv fl 1 = fl := by rw [fillv, if_pos (.inr (by omega))]
  have e9 : fillv mg 8 = mg := by rw [fillv, if_pos (.inr (by omega))]
  replace K := Lib.hid (show BlkF _ _ [(fillv p 100).data.toList, (numz m 8).data.toList, (numz u 8).data.toList, (numz g 8).data.toList, (numz sz 12).data.toList, (numz t 12).data.toList, nuls 8, fl.data.toList, (fillv l 100).data.toList, mg.data.toList, (fillv us 32).data.toList, (fillv gr 32).data.toList, (numz 0 8).data.toList, (numz 0 8).data.toList, (fillv sp 155).data.toList, nuls 12] by have h := K.out; rw [e7, e9] at h; exact h)
  clear e7 e9
  have hc := K.out.2.conv
  have hKl := K.out.2.1
  obtain ⟨X, hX⟩ : ∃ X, X = flat [(fillv p 100).data.toList, (numz m 8).data.toList, (numz u 8).data.toList, (numz g 8).data.toList, (numz sz 12).data.toList, (numz t 12).data.toList, nuls 8, fl.data.toList, (fillv l 100).data.toList, mg.data.toList, (fillv us 32).data.toList, (fillv gr 32).data.toList, (numz 0 8).data.toList, (numz 0 8).data.toList, (fillv sp 155).data.toList, nuls 12] := ⟨_, rfl⟩
  rw [← hX] at hc hKl
  have HS := Lib.hid (fun w hT hF => sumText_any ⟨X.toArray⟩ w (by rw [ba_size]; omega) hT hF)
  have lens := K.out.1
  simp only [WF, List.map_cons, List.map_nil, widths, List.cons_append, List.nil_append, List.cons.injEq] at lens
  have lA : hA.data.toList.length = 148 := by
    rw [HA.out]
    simp only [List.length_append]
    omega
  have lB : hB.data.toList.length = 356 := by
    rw [HB.out]
    simp only [List.length_append]
    omega
  have HXe : Hid (headSumv ⟨X.toArray⟩ = sumv hA.data.toList + 256 + sumv hB.data.toList) := Lib.hid (by
    rw [← head_sum lA lB, hX, HA.out, HB.out]
    simp [flat])
  rw [HXe.out] at HS
  have bd := headSum_bd ⟨X.toArray⟩
  rw [HXe.out] at bd
  have bA := sumv_bd hA.data.toList
  have bB := sumv_bd hB.data.toList
  have bs : 0 ≤ sumv hA.data.toList + 256 + sumv hB.data.toList := by omega
  generalize sumv hA.data.toList + 256 + sumv hB.data.toList = sm at HS bd bs HV
  obtain ⟨_, zd, _⟩ := oct_fits (n := sm) (k := 6) (by omega) (by omega) (by omega) (by have : (8 : Nat) ^ 6 = 262144 := (by decide); omega)
  have zd' : (putOctv sm 6).1.size = 6 := zd
  have HST : Hid ((fillv ((putOctv sm 6).1 ++ ⟨#[0, 32]⟩) 8) = (putOctv sm 6).1 ++ ⟨#[0, 32]⟩) := Lib.hid (by rw [fillv, if_pos (.inr (by rw [ByteArray.size_append, zd']; decide))])
  have zst : ((putOctv sm 6).1 ++ (⟨#[0, 32]⟩ : ByteArray)).size ≤ 8 := by rw [ByteArray.size_append, zd']; decide
  have HR : Hid (∀ F : List UInt8, F = flat [(fillv p 100).data.toList, (numz m 8).data.toList, (numz u 8).data.toList, (numz g 8).data.toList, (numz sz 12).data.toList, (numz t 12).data.toList, ((putOctv sm 6).1 ++ (⟨#[0, 32]⟩ : ByteArray)).data.toList, fl.data.toList, (fillv l 100).data.toList, mg.data.toList, (fillv us 32).data.toList, (fillv gr 32).data.toList, (numz 0 8).data.toList, (numz 0 8).data.toList, (fillv sp 155).data.toList, nuls 12] → (⟨F.toArray⟩ : ByteArray) = r) := Lib.hid (by
    rintro F rfl
    apply ba_ext
    rw [HV.out]
    simp only [ByteArray.data_append, Array.toList_append, HA.out, HB.out]
    simp [flat])
  generalize (putOctv sm 6).1 ++ (⟨#[0, 32]⟩ : ByteArray) = st at *
  clear HV HA HB HXe hX lens lA lB bA bB bd zd zd' hKl
  go_wp2_with fail
  refine (HS.out _ (HT.out.below B.out) (HF.out.below B.out)).mono ?_
  rintro e w3 ⟨rfl, hb⟩
  have K3 := Lib.hid (K.out.below hb K.out.2.lt)
  have B3 := Lib.hid (B.out.trans (hb.mono B.out.size))
  clear hb hc K B
  go_wp2_with fail
  refine (put_t (w.heap.size + 1) 6 8 _ st _ (by omega) rfl rfl zst (HF.out.below B3.out) K3.out).mono ?_
  rintro e w4 ⟨rfl, hk, -, hb⟩
  have B4 := Lib.hid (B3.out.trans (grown_below hb (by omega) K3.out.2.lt))
  rw [show fillv st ((8 : Nat) : Int) = st from HST.out] at hk
  have hc := (hk.2.conv).trans (congrArg (fun x => Result.ok (Value.string x) w4) (HR.out _ rfl))
  clear hk hb B3 K3 HS
  go_wp2
  go_ret
  exact ⟨rfl, B4.out⟩
end Go.Proofs.YtgpgkgahbkmdiaaDoor

/- Contracts of impl.headOk and impl.PutHead. -/
namespace Go.Proofs.YtgpgkgahbkmdiaaDoor
open Go.ChangeShapes Go.WideShapes Go.ChangeAt Go.RowKit Go.Deep

def hokv (fl : ByteArray) (sz : Int) : Bool := decide (fl.size = 1) && inB sz 0 3000
theorem hok_iff {fl : ByteArray} {sz : Int} : hokv fl sz = true ↔ fl.size = 1 ∧ (0 ≤ sz ∧ sz ≤ 3000) := by
  rw [hokv, Bool.and_eq_true, decide_eq_true_eq]
  constructor
  · rintro ⟨h1, h2⟩
    refine ⟨h1, ?_⟩
    by_cases q : 0 ≤ sz ∧ sz ≤ 3000
    · exact q
    · rw [inB_f q] at h2; cases h2
  · rintro ⟨h1, h2⟩
    exact ⟨h1, inB_t h2⟩
theorem headOkI_any (fl : ByteArray) (sz : Int) (w : World) : Calls Tryd.prog 19 #[.string fl, .int .i64 sz] w fun e w' => e = .returned (.bool (hokv fl sz)) ∧ w = w' := by
  have H2 := Lib.hid (fun w => upTo_any sz 3000 w)
  by_cases h1 : (fl.size : Int) = 1
  · have HE : Hid (hokv fl sz = inB sz 0 3000) := Lib.hid (by rw [hokv, decide_eq_true (by omega)]; rfl)
    generalize hokv fl sz = r at *
    generalize inB sz 0 3000 = q at *
    go_enter Tryd.func19, Tryd.ntmps19
    go_wp2_with fail
    refine (H2.out _).mono ?_
    rintro e w1 ⟨rfl, rfl⟩
    go_wp2
    go_ret
    exact ⟨ret_bool HE.out.symm, rfl⟩
  · have HE : Hid (hokv fl sz = false) := Lib.hid (by rw [hokv, decide_eq_false (by omega)]; rfl)
    generalize hokv fl sz = r at *
    clear H2
    go_enter Tryd.func19, Tryd.ntmps19
    go_wp2
    go_ret
    exact ⟨ret_bool HE.out.symm, rfl⟩
theorem putHead_no {e : Ent} {flag : ByteArray} {size : Int} (h : ¬ (fitsv e = true ∧ flag.size = 1 ∧ (0 ≤ size ∧ size ≤ 3000))) : putHeadv e flag size = ⟨#[]⟩ := by rw [putHeadv, if_neg h]
set_option maxHeartbeats 6400000 in
set_option maxRecDepth 8000 in
theorem putHead_yes (k : Int) (p l : ByteArray) (m u g t : Int) (us gr b fl : ByteArray) (sz : Int) (w : World) (hp : p.size ≤ 4194304) (hl : l.size ≤ 4194304) (hus : us.size ≤ 4194304) (hgr : gr.size ≤ 4194304) (hfit : fitsv ⟨k, p, l, m, u, g, t, us, gr, b⟩ = true) (hfl : fl.size = 1) (hs : 0 ≤ sz ∧ sz ≤ 3000) (hT : Tabs w) (hF : FW w) :
    Calls Tryd.prog 9 #[.agg #[.int .i64 k, .string p, .string l, .int .i64 m, .int .i64 u, .int .i64 g, .int .i64 t, .string us, .string gr, .string b], .string fl, .int .i64 sz] w fun e w' => e = .returned (.string (headv ⟨k, p, l, m, u, g, t, us, gr, b⟩ (splitN p) (splitP p) fl sz magicU)) ∧ Below w.heap.size w w' := by
  have H1 := Lib.hid (fun w => fits_impl k p l m u g t us gr b w hp hl hus hgr)
  rw [hfit] at H1
  have H2 := Lib.hid (fun w => headOkI_any fl sz w)
  rw [hok_iff.2 ⟨hfl, hs⟩] at H2
  have H3 := Lib.hid (fun w => split_impl p w hp)
  obtain ⟨nm, nu, ng, nt, zl, zus, zgr, hso⟩ := fits_nums hfit
  simp only at nm nu ng nt zl zus zgr hso
  obtain ⟨zn, zp⟩ := split_sizes hso
  have H4 := Lib.hid (fun w hT hF => headText_impl k (splitN p) l m u g t us gr b fl sz (splitP p) magicU w zn zl zus zgr hfl zp (by decide) (by omega) (by omega) (by omega) (by omega) (by omega) hT hF)
  have hv : hdv ⟨k, splitN p, l, m, u, g, t, us, gr, b⟩ (splitN p) (splitP p) fl sz magicU = headv ⟨k, p, l, m, u, g, t, us, gr, b⟩ (splitN p) (splitP p) fl sz magicU :=
    (hdv_head (e := ⟨k, splitN p, l, m, u, g, t, us, gr, b⟩) nm nu ng nt hs).trans rfl
  rw [hv, show magicU = ⟨#[117, 115, 116, 97, 114, 0, 48, 48]⟩ from rfl] at H4
  rw [show magicU = ⟨#[117, 115, 116, 97, 114, 0, 48, 48]⟩ from rfl]
  generalize headv ⟨k, p, l, m, u, g, t, us, gr, b⟩ (splitN p) (splitP p) fl sz ⟨#[117, 115, 116, 97, 114, 0, 48, 48]⟩ = r at *
  generalize splitN p = sn at *
  generalize splitP p = sp at *
  generalize splitOk p = so at *
  have HF := Lib.hid hF
  have HT := Lib.hid hT
  clear hv hF hT hfit hp hl hus hgr hfl zn zp nm nu ng nt zl zus zgr hso hs
  go_enter Tryd.func9, Tryd.ntmps9
  go_wp2_with fail
  have E0 := Lib.hid (EntO.new w ⟨k, p, l, m, u, g, t, us, gr, b⟩)
  have B0 := Lib.hid ((Below.refl w.heap.size w).alloc (Nat.le_refl _) (.cells (Ent.cells ⟨k, p, l, m, u, g, t, us, gr, b⟩).toArray 26))
  have z0 := E0.out.lt
  simp only [Ent.cells] at E0 B0 z0
  generalize w.alloc (.cells #[.int .i64 k, .string p, .string l, .int .i64 m, .int .i64 u, .int .i64 g, .int .i64 t, .string us, .string gr, .string b] 26) = w0 at *
  refine (H1.out _).mono ?_
  rintro e w1 ⟨rfl, hb⟩
  have E1 := Lib.hid (E0.out.below hb z0)
  have B1 := Lib.hid (btE B0.out hb)
  clear hb E0 B0 H1 z0
  go_wp2_with fail
  refine (H2.out _).mono ?_
  rintro e w2 ⟨rfl, rfl⟩
  obtain ⟨_, c1, _⟩ := E1.out.at.zero
  go_wp2_with fail
  refine (H3.out _).mono ?_
  rintro e w2 ⟨rfl, hb⟩
  have E2 := Lib.hid (E1.out.below hb E1.out.lt)
  have B2 := Lib.hid (btE B1.out hb)
  clear hb c1 E1 B1 H2 H3
  obtain ⟨_, c1, _⟩ := E2.out.at.zero
  have hfz := E2.out.fz 1
  have E3 := Lib.hid (E2.out.set (e' := ⟨k, sn, l, m, u, g, t, us, gr, b⟩) 1 (.string sn) rfl)
  have B3 := Lib.hid (B2.out.setCell (p := ⟨w.heap.size, 1, none⟩) (Nat.le_refl _) (.string sn))
  have q := fun w' (h : EntO w' w.heap.size ⟨k, sn, l, m, u, g, t, us, gr, b⟩) => run_loadVar_row (P := Tryd.prog) w' w.heap.size 26 26 _ (0, 0) _ h Tryd.underlying26 rfl (by rw [Tryd.sizeEntO]; rfl)
  have q2 := Lib.hid (q _ E3.out)
  clear q
  go_wp2_with ((with_reducible refine wpList_load_eq rfl 26 _ _ rfl ⟨w.heap.size, 0, none⟩ ?_ q2.out ?_); rfl)
  refine (H4.out _ (HT.out.below B3.out) (HF.out.below B3.out)).mono ?_
  rintro e w4 ⟨rfl, hb⟩
  go_wp2
  go_ret
  exact ⟨rfl, btE B3.out hb⟩
set_option maxHeartbeats 1600000 in
theorem putHead_impl (k : Int) (p l : ByteArray) (m u g t : Int) (us gr b fl : ByteArray) (sz : Int) (w : World) (hp : p.size ≤ 4194304) (hl : l.size ≤ 4194304) (hus : us.size ≤ 4194304) (hgr : gr.size ≤ 4194304) (hT : Tabs w) (hF : FW w) :
    Calls Tryd.prog 9 #[.agg #[.int .i64 k, .string p, .string l, .int .i64 m, .int .i64 u, .int .i64 g, .int .i64 t, .string us, .string gr, .string b], .string fl, .int .i64 sz] w fun e w' => e = .returned (.string (putHeadv ⟨k, p, l, m, u, g, t, us, gr, b⟩ fl sz)) ∧ Below w.heap.size w w' := by
  by_cases hy : fitsv ⟨k, p, l, m, u, g, t, us, gr, b⟩ = true ∧ fl.size = 1 ∧ (0 ≤ sz ∧ sz ≤ 3000)
  · rw [putHeadv, if_pos hy]
    exact putHead_yes k p l m u g t us gr b fl sz w hp hl hus hgr hy.1 hy.2.1 hy.2.2 hT hF
  · have HE := Lib.hid (putHead_no hy)
    have H1 := Lib.hid (fun w => fits_impl k p l m u g t us gr b w hp hl hus hgr)
    have H2 := Lib.hid (fun w => headOkI_any fl sz w)
    have hh : fitsv ⟨k, p, l, m, u, g, t, us, gr, b⟩ = true → hokv fl sz = false := fun h => by
      cases hq : hokv fl sz with
      | false => rfl
      | true => exact absurd ⟨h, hok_iff.1 hq⟩ hy
    generalize putHeadv ⟨k, p, l, m, u, g, t, us, gr, b⟩ fl sz = r at HE
    generalize fitsv ⟨k, p, l, m, u, g, t, us, gr, b⟩ = bf at H1 hy hh
    clear hT hF hp hl hus hgr hy
    cases bf with
    | false =>
      clear hh
      go_enter Tryd.func9, Tryd.ntmps9
      go_wp2_with fail
      refine (H1.out _).mono ?_
      rintro e w1 ⟨rfl, hb⟩
      obtain ⟨-, bb1, -⟩ := one_new (e1 := ⟨k, p, l, m, u, g, t, us, gr, b⟩) hb
      have B1 := Lib.hid bb1
      clear hb bb1
      go_wp2
      go_ret
      exact ⟨ret_str HE.out.symm, B1.out⟩
    | true =>
      rw [hh rfl] at H2
      clear hh
      go_enter Tryd.func9, Tryd.ntmps9
      go_wp2_with fail
      refine (H1.out _).mono ?_
      rintro e w1 ⟨rfl, hb⟩
      obtain ⟨-, bb1, -⟩ := one_new (e1 := ⟨k, p, l, m, u, g, t, us, gr, b⟩) hb
      have B1 := Lib.hid bb1
      clear hb bb1
      go_wp2_with fail
      refine (H2.out _).mono ?_
      rintro e w2 ⟨rfl, rfl⟩
      go_wp2
      go_ret
      exact ⟨ret_str HE.out.symm, B1.out⟩
end Go.Proofs.YtgpgkgahbkmdiaaDoor

/- Contracts of spec.Pad, impl.Pad and the law laws.FnExactPad: what each returns for every argument, the world unchanged. -/
namespace Go.Proofs.YtgpgkgahbkmdiaaDoor
open Go.ChangeShapes Go.WideShapes Go.ChangeAt Go.RowKit

def padv (n u : Int) : Int := if 0 ≤ n ∧ n ≤ 9007199254740991 ∧ 1 ≤ u ∧ u ≤ 512 then (u - n % u) % u else 0

theorem pad_impl (n u : Int) (w : World) : Calls Tryd.prog 52 #[.int .i64 n, .int .i64 u] w fun e w' => e = .returned (.int .i64 (padv n u)) ∧ w = w' := by
  by_cases h1 : 0 ≤ n
  · by_cases h2 : n ≤ 9007199254740991
    · by_cases h3 : 1 ≤ u
      · by_cases h4 : u ≤ 512
        · have hm := Int.emod_nonneg n (show u ≠ 0 by omega)
          have hl := Int.emod_lt_of_pos n (show 0 < u by omega)
          go_enter Tryd.func52, Tryd.ntmps52
          go_wp2
          go_ret
          exact ⟨ret_int (by simp [padv, *]), rfl⟩
        · go_enter Tryd.func52, Tryd.ntmps52
          go_wp2
          go_ret
          exact ⟨ret_int (by simp [padv]; omega), rfl⟩
      · go_enter Tryd.func52, Tryd.ntmps52
        go_wp2
        go_ret
        exact ⟨ret_int (by simp [padv]; omega), rfl⟩
    · go_enter Tryd.func52, Tryd.ntmps52
      go_wp2
      go_ret
      exact ⟨ret_int (by simp [padv]; omega), rfl⟩
  · go_enter Tryd.func52, Tryd.ntmps52
    go_wp2
    go_ret
    exact ⟨ret_int (by simp [padv]; omega), rfl⟩


theorem pad_spec (n u : Int) (w : World) : Calls Tryd.prog 50 #[.int .i64 n, .int .i64 u] w fun e w' => e = .returned (.int .i64 (padv n u)) ∧ w = w' := by
  by_cases h1 : 0 ≤ n ∧ n ≤ 9007199254740991
  · have i1 := inB_t h1
    by_cases h2 : 1 ≤ u ∧ u ≤ 512
    · have i2 := inB_t h2
      have hm := Int.emod_nonneg n (show u ≠ 0 by omega)
      have hl := Int.emod_lt_of_pos n (show 0 < u by omega)
      by_cases h3 : n % u = 0
      · have hz : (n % u == 0) = true := by simp [h3]
        have H := Lib.hid h3
        clear h3
        go_enter Tryd.func50, Tryd.ntmps50
        go_wp2_with (go_at_call 15; refine (in_any _ _ _ _).mono ?_; rintro e w' ⟨rfl, rfl⟩)
        go_ret
        exact ⟨ret_int (by simp [padv, H.out]), rfl⟩
      · have hz : (n % u == 0) = false := by simp [h3]
        go_enter Tryd.func50, Tryd.ntmps50
        go_wp2_with (go_at_call 15; refine (in_any _ _ _ _).mono ?_; rintro e w' ⟨rfl, rfl⟩)
        go_ret
        refine ⟨ret_int ?_, rfl⟩
        rw [padv, if_pos (by omega)]
        exact (Int.emod_eq_of_lt (a := u - n % u) (by omega) (by omega)).symm
    · have i2 := inB_f h2
      go_enter Tryd.func50, Tryd.ntmps50
      go_wp2_with (go_at_call 15; refine (in_any _ _ _ _).mono ?_; rintro e w' ⟨rfl, rfl⟩)
      go_ret
      exact ⟨ret_int (by simp [padv]; omega), rfl⟩
  · have i1 := inB_f h1
    go_enter Tryd.func50, Tryd.ntmps50
    go_wp2_with (go_at_call 15; refine (in_any _ _ _ _).mono ?_; rintro e w' ⟨rfl, rfl⟩)
    go_ret
    exact ⟨ret_int (by simp [padv]; omega), rfl⟩

end Go.Proofs.YtgpgkgahbkmdiaaDoor

/- A body and its padding: spec.l04Body, impl.nuls, impl.padded. -/
namespace Go.Proofs.YtgpgkgahbkmdiaaDoor
open Go.ChangeShapes Go.WideShapes Go.ChangeAt Go.RowKit

theorem pad_bd (n : Nat) : 0 ≤ padv n 512 ∧ padv n 512 ≤ 511 := by
  unfold padv
  split
  · have h1 := Int.emod_nonneg (512 - (n : Int) % 512) (by omega : (512 : Int) ≠ 0)
    have h2 := Int.emod_lt_of_pos (512 - (n : Int) % 512) (by omega : (0 : Int) < 512)
    omega
  · omega

def bodyP (s : ByteArray) : ByteArray := s ++ nulv (padv s.size 512).toNat
theorem body_size (s : ByteArray) : (bodyP s).size ≤ s.size + 511 := by
  rw [bodyP, ByteArray.size_append, nulv_size]
  have := pad_bd s.size
  omega
theorem l04Body_spec (s : ByteArray) (w : World) (hs : s.size ≤ 4194304) :
    Calls Tryd.prog 26 #[.string s] w fun e w' => e = .returned (.string (bodyP s)) ∧ Below w.heap.size w w' := by
  have H1 := Lib.hid (fun w => pad_spec s.size 512 w)
  have hp := pad_bd s.size
  have HE : Hid (bodyP s = s ++ nulv (padv s.size 512).toNat) := Lib.hid rfl
  generalize bodyP s = r at HE
  have H2 := Lib.hid (fun w => nuls_spec (padv s.size 512) w (by omega))
  have z := nulv_size (padv s.size 512).toNat
  generalize nulv (padv s.size 512).toNat = nn at *
  generalize padv s.size 512 = pp at *
  go_enter Tryd.func26, Tryd.ntmps26
  go_wp2_with fail
  refine (H1.out _).mono ?_
  rintro e w1 ⟨rfl, rfl⟩
  go_wp2_with fail
  refine (H2.out _).mono ?_
  rintro e w2 ⟨rfl, hb⟩
  go_wp2
  go_ret
  exact ⟨ret_str HE.out.symm, hb⟩
theorem fill_empty {n : Int} (h : n ≤ 1024) : fillv ⟨#[]⟩ n = nulv n.toNat := by
  unfold fillv
  have z : (⟨#[]⟩ : ByteArray).size = 0 := rfl
  by_cases q : n ≤ 0
  · rw [if_pos (.inr (by omega)), show n.toNat = 0 from by omega]; rfl
  · rw [if_neg (by omega), z]
    apply ba_ext
    simp
theorem nulsI_any (n : Int) (w : World) (hn : n ≤ 1024) :
    Calls Tryd.prog 51 #[.int .i64 n] w fun e w' => e = .returned (.string (nulv n.toNat)) ∧ Below w.heap.size w w' := by
  have H := Lib.hid (fun w => fill_impl ⟨#[]⟩ n w (by decide))
  rw [fill_empty hn] at H
  generalize nulv n.toNat = r at H
  go_enter Tryd.func51, Tryd.ntmps51
  go_wp2_with fail
  refine (H.out _).mono ?_
  rintro e w1 ⟨rfl, hb⟩
  go_wp2
  go_ret
  exact ⟨rfl, hb⟩
theorem padded_any (s : ByteArray) (w : World) (hs : s.size ≤ 4194304) :
    Calls Tryd.prog 27 #[.string s] w fun e w' => e = .returned (.string (bodyP s)) ∧ Below w.heap.size w w' := by
  have H1 := Lib.hid (fun w => pad_impl s.size 512 w)
  have hp := pad_bd s.size
  have HE : Hid (bodyP s = s ++ nulv (padv s.size 512).toNat) := Lib.hid rfl
  generalize bodyP s = r at HE
  have H2 := Lib.hid (fun w => nulsI_any (padv s.size 512) w (by omega))
  have z := nulv_size (padv s.size 512).toNat
  generalize nulv (padv s.size 512).toNat = nn at *
  generalize padv s.size 512 = pp at *
  go_enter Tryd.func27, Tryd.ntmps27
  go_wp2_with fail
  refine (H1.out _).mono ?_
  rintro e w1 ⟨rfl, rfl⟩
  go_wp2_with fail
  refine (H2.out _).mono ?_
  rintro e w2 ⟨rfl, hb⟩
  go_wp2
  go_ret
  exact ⟨ret_str HE.out.symm, hb⟩
end Go.Proofs.YtgpgkgahbkmdiaaDoor

/- The texts of a header with long names cut, and of a long name: plain lists; spec.l06First, spec.l06Num. -/
namespace Go.Proofs.YtgpgkgahbkmdiaaDoor
open Go.ChangeShapes Go.WideShapes Go.ChangeAt Go.RowKit

def magicG : ByteArray := ⟨#[117, 115, 116, 97, 114, 32, 32, 0]⟩
def firstv (s : ByteArray) : ByteArray := if s.size ≤ 100 then s else s.extract 0 100
theorem first_size (s : ByteArray) : (firstv s).size ≤ 100 := by
  unfold firstv
  split
  · assumption
  · rw [ByteArray.size_extract]; omega
theorem first_same {s : ByteArray} (h : s.size ≤ 100) : firstv s = s := by rw [firstv, if_pos h]
/-- A header of an entry, its name and its link cut. -/
def lhdv (e : Ent) (name flag : ByteArray) (size : Int) : ByteArray := hdv { e with link := firstv e.link } (firstv name) ⟨#[]⟩ flag size magicG
def putLongv (e : Ent) (flag : ByteArray) (size : Int) : ByteArray := if entOkv e = true ∧ flag.size = 1 ∧ (0 ≤ size ∧ size ≤ 3000) then lhdv e e.path flag size else ⟨#[]⟩
theorem putLong_no {e : Ent} {flag : ByteArray} {size : Int} (h : ¬ (entOkv e = true ∧ flag.size = 1 ∧ (0 ≤ size ∧ size ≤ 3000))) : putLongv e flag size = ⟨#[]⟩ := by rw [putLongv, if_neg h]
def longPath : ByteArray := ⟨#[46, 47, 46, 47, 64, 76, 111, 110, 103, 76, 105, 110, 107]⟩
def zE : Ent := ⟨0, ⟨#[]⟩, ⟨#[]⟩, 0, 0, 0, 0, ⟨#[]⟩, ⟨#[]⟩, ⟨#[]⟩⟩
/-- The numbers and texts of a right entry. -/
theorem entOk_nums {e : Ent} (h : entOkv e = true) : (0 ≤ e.mode ∧ e.mode ≤ 4095) ∧ (0 ≤ e.uid ∧ e.uid ≤ 4294967295) ∧ (0 ≤ e.gid ∧ e.gid ≤ 4294967295) ∧ (0 ≤ e.time ∧ e.time ≤ 99999999999) ∧ e.user.size ≤ 32 ∧ e.group.size ≤ 32 := by
  simp only [entOkv, Bool.and_eq_true, decide_eq_true_eq, inB, whov] at h
  exact ⟨by omega, by omega, by omega, by omega, by omega, by omega⟩
theorem entOk_pl2 {e : Ent} (h : entOkv e = true) : e.path.size ≤ 200 ∧ e.link.size ≤ 200 := by
  simp only [entOkv, Bool.and_eq_true] at h
  refine ⟨path_200 h.1.1.1.1.1.1.1, ?_⟩
  have hk := h.2
  unfold kindOk at hk
  split at hk
  · simp only [Bool.and_eq_true, decide_eq_true_eq] at hk; omega
  · split at hk
    · simp only [Bool.and_eq_true, decide_eq_true_eq] at hk; omega
    · split at hk
      · simp only [Bool.and_eq_true, decide_eq_true_eq, inB] at hk; omega
      · split at hk
        · simp only [Bool.and_eq_true] at hk; exact path_200 hk.1.1
        · cases hk
theorem entOk_pl {k : Int} {p l : ByteArray} {m u g t : Int} {us gr b : ByteArray} (h : entOkv ⟨k, p, l, m, u, g, t, us, gr, b⟩ = true) : p.size ≤ 100000 ∧ l.size ≤ 100000 := by
  obtain ⟨h1, h2⟩ := entOk_pl2 h
  simp only at h1 h2
  omega
theorem lhd_size {e : Ent} {name flag : ByteArray} {size : Int} (nm : 0 ≤ e.mode ∧ e.mode ≤ 9007199254740991) (nu : 0 ≤ e.uid ∧ e.uid ≤ 9007199254740991) (ng : 0 ≤ e.gid ∧ e.gid ≤ 9007199254740991) (nt : 0 ≤ e.time ∧ e.time ≤ 9007199254740991) (ns : 0 ≤ size ∧ size ≤ 9007199254740991)
    (zus : e.user.size ≤ 32) (zgr : e.group.size ≤ 32) (zfl : flag.size = 1) : (lhdv e name flag size).size = 512 :=
  hdv_size (e := { e with link := firstv e.link }) (first_size name) nm nu ng nt ns (first_size e.link) zus zgr (by decide) zfl (by decide)
theorem putLong_size {e : Ent} {flag : ByteArray} {size : Int} : (putLongv e flag size).size ≤ 512 := by
  unfold putLongv
  split
  · rename_i h
    obtain ⟨h1, h2, h3, h4, h5, h6⟩ := entOk_nums h.1
    exact Nat.le_of_eq (lhd_size (by omega) (by omega) (by omega) (by omega) (by omega) h5 h6 h.2.1)
  · decide
def flagL : ByteArray := ⟨#[76]⟩
def flagK : ByteArray := ⟨#[75]⟩
def longv (kind text : ByteArray) : ByteArray := if (kind = flagL ∨ kind = flagK) ∧ text.size ≤ 250 then lhdv zE longPath kind ((text.size : Int) + 1) ++ bodyP (text ++ ⟨#[0]⟩) else ⟨#[]⟩
theorem long_no {kind text : ByteArray} (h : ¬ ((kind = flagL ∨ kind = flagK) ∧ text.size ≤ 250)) : longv kind text = ⟨#[]⟩ := by rw [longv, if_neg h]
theorem long_kind {kind : ByteArray} (h : kind = flagL ∨ kind = flagK) : kind.size = 1 := by rcases h with rfl | rfl <;> rfl
theorem long_head {kind text : ByteArray} (h : kind = flagL ∨ kind = flagK) (ht : text.size ≤ 250) : (lhdv zE longPath kind ((text.size : Int) + 1)).size = 512 :=
  lhd_size (by decide) (by decide) (by decide) (by decide) (by omega) (by decide) (by decide) (long_kind h)
theorem long_size (kind text : ByteArray) : (longv kind text).size ≤ 1275 := by
  unfold longv
  split
  · rename_i h
    have h1 := long_head h.1 h.2
    have h2 := body_size (text ++ ⟨#[0]⟩)
    rw [ByteArray.size_append] at h2 ⊢
    have h3 : (⟨#[0]⟩ : ByteArray).size = 1 := rfl
    omega
  · decide
theorem nul_167 : fillv ⟨#[]⟩ 155 ++ nulv 12 = nulv 167 := by decide +kernel

theorem l06First_any (s : ByteArray) (w : World) (hs : s.size ≤ 4194304) :
    Calls Tryd.prog 43 #[.string s, .int .i64 100] w fun e w' => e = .returned (.string (firstv s)) ∧ w = w' := by
  by_cases h : (s.size : Int) ≤ 100
  · have HE : Hid (firstv s = s) := Lib.hid (first_same (by omega))
    generalize firstv s = r at HE
    go_enter Tryd.func43, Tryd.ntmps43
    go_wp2
    go_ret
    exact ⟨ret_str HE.out.symm, rfl⟩
  · have HE : Hid (firstv s = s.extract 0 100) := Lib.hid (by rw [firstv, if_neg (by omega)])
    generalize firstv s = r at HE
    go_enter Tryd.func43, Tryd.ntmps43
    go_wp2
    go_ret
    exact ⟨ret_str HE.out.symm, rfl⟩
theorem l06Num_spec (n : Int) (x : Nat) (most : Int) (w : World) (h0 : 0 ≤ n) (h1 : n ≤ 9007199254740991) (hx : 8 ≤ x) (hx2 : x ≤ 18) (hm : most + 1 = (8 : Int) ^ (x - 1)) :
    Calls Tryd.prog 44 #[.int .i64 n, .int .i64 x, .int .i64 most] w fun e w' => e = .returned (.string (numz n x)) ∧ Below w.heap.size w w' := by
  have hp : (((8 : Nat) ^ (x - 1) : Nat) : Int) = (8 : Int) ^ (x - 1) := by push_cast; rfl
  by_cases h : n ≤ most
  · have H := Lib.hid (fun w => l04Oct_spec n x w (by omega) (by omega))
    rw [← numz_oct h0 (by omega) hx2 (by omega)] at H
    generalize numz n x = r at H
    clear hp hm
    go_enter Tryd.func44, Tryd.ntmps44
    go_wp2_with fail
    refine (H.out _).mono ?_
    rintro e w1 ⟨rfl, rfl⟩
    go_wp2
    go_ret
    exact ⟨rfl, Below.refl _ _⟩
  · have H := Lib.hid (fun w => putBig_spec n x w)
    have HE : Hid (numz n x = (putBigv n x).1) := Lib.hid (numz_big (by omega) (by omega))
    generalize numz n x = r at HE
    generalize putBigv n x = pr at *
    obtain ⟨a, b⟩ := pr
    simp only at H HE
    clear hp hm
    go_enter Tryd.func44, Tryd.ntmps44
    go_wp2_with fail
    refine (H.out _).mono ?_
    rintro e w1 ⟨rfl, hb⟩
    go_wp2
    go_ret
    exact ⟨ret_str HE.out.symm, hb⟩
end Go.Proofs.YtgpgkgahbkmdiaaDoor

/- A statement that draws its order, proved by what each of its operations leaves: an invariant over whatever has come up. Nothing of the program is said here. -/
namespace Go.Proofs.YtgpgkgahbkmdiaaDoor
open Go

section
variable {P : Program} {ops : Array Oper} {Q : Exit → Act → World → Prop} {md : Region.Mode}

/-- How many of the first n have not come up yet. -/
def openOps (n : Nat) (listed : Array Bool) : Nat := ((List.range n).filter fun i => !listed.getD i true).length
theorem set_getD_ne {listed : Array Bool} {i j : Nat} {d : Bool} (h : j ≠ i) : (listed.setIfInBounds i true).getD j d = listed.getD j d := getD_set_ne d (Ne.symm h)
theorem set_getD_self {listed : Array Bool} {i : Nat} {d : Bool} (h : i < listed.size) : (listed.setIfInBounds i true).getD i d = true := by
  simp [Array.getD, h]
theorem lt_of_open {listed : Array Bool} {i : Nat} (h : listed.getD i true = false) : i < listed.size := by
  by_cases hi : i < listed.size
  · exact hi
  · simp [Array.getD, hi] at h
theorem openOps_set {n i : Nat} {listed : Array Bool} (hi : i < n) (hl : listed.getD i true = false) : openOps n (listed.setIfInBounds i true) < openOps n listed := by
  unfold openOps
  have e : ((List.range n).filter fun j => !(listed.setIfInBounds i true).getD j true) = ((List.range n).filter fun j => !listed.getD j true).filter fun j => decide (j ≠ i) := by
    rw [List.filter_filter]
    apply List.filter_congr
    intro j _
    by_cases hj : j = i
    · subst hj
      rw [set_getD_self (lt_of_open hl)]; simp
    · rw [set_getD_ne hj]; simp [hj]
  rw [e]
  apply List.length_filter_lt_length_iff_exists.2
  exact ⟨i, List.mem_filter.2 ⟨List.mem_range.2 hi, by rw [hl]; rfl⟩, by simp⟩
theorem ready_lt {listed : Array Bool} {i : Nat} (h : i ∈ Region.ready md ops listed) : i < ops.size ∧ listed.getD i true = false := by
  obtain ⟨h1, o, h2, _⟩ := mem_ready.1 h
  exact ⟨(Array.getElem?_eq_some_iff.1 h2).1, h1⟩
theorem wpAny_inv (I : Array Bool → Act → World → Prop)
    (hstep : ∀ listed a w, I listed a w → ∀ i ∈ Region.ready md ops listed, wpOp P ops Q i (I (listed.setIfInBounds i true)) a w)
    (hend : ∀ listed a w, I listed a w → Region.ready md ops listed = [] → Q .normal a w) :
    ∀ (fuel : Nat) (listed : Array Bool) (a : Act) (w : World), openOps ops.size listed ≤ fuel → I listed a w → wpAny P md ops Q fuel listed a w
  | 0, listed, a, w, hf, hI => by
    have hr : Region.ready md ops listed = [] := by
      cases h : Region.ready md ops listed with
      | nil => rfl
      | cons i r =>
        have hi := ready_lt (md := md) (ops := ops) (listed := listed) (i := i) (by rw [h]; simp)
        have := openOps_set hi.1 hi.2
        omega
    exact ⟨hr, hend _ _ _ hI hr⟩
  | fuel + 1, listed, a, w, hf, hI => by
    refine ⟨fun hr => hend _ _ _ hI hr, fun i hi => wpOp_mono (fun a' w' h' => wpAny_inv I hstep hend fuel _ a' w' ?_ h') (hstep _ _ _ hI i hi)⟩
    have h1 := ready_lt hi
    have := openOps_set h1.1 h1.2
    omega

theorem getD_put_ne {xs : Array Value} {d t : Nat} {v u : Value} (h : d ≠ t) : (xs.setIfInBounds d v).getD t u = xs.getD t u := by
  simp [Array.getD_eq_getD_getElem?, h]
/-- The slots that an operation looks at. -/
def slotsOf (o : Oper) : List Nat := o.op.operands.toList.filterMap fun | .tmp t => some t | _ => none
theorem slotsOf_mem {o : Oper} {t : Nat} (h : Operand.tmp t ∈ o.op.operands) : t ∈ slotsOf o := List.mem_filterMap.2 ⟨.tmp t, by simpa using h, rfl⟩
/-- Does the region write this slot? -/
def inReg (ops : Array Oper) (t : Nat) : Bool := ops.any fun o => o.dst == some t
theorem inReg_of {i t : Nat} {o : Oper} (h : ops[i]? = some o) (hd : o.dst = some t) : inReg ops t = true := by
  unfold inReg
  rw [Array.any_eq_true]
  obtain ⟨hi, rfl⟩ := Array.getElem?_eq_some_iff.1 h
  exact ⟨i, hi, by rw [hd]; simp⟩
/-- Is what o reads in this slot what stood there ahead of the region: nothing writes it, or only what comes behind o? -/
def oldB (md : Region.Mode) (ops : Array Oper) (o : Oper) (t : Nat) : Bool :=
  ops.all fun p => p.dst != some t || (o.dst.isSome && p.after.any fun e => Region.binds md e && ((ops[e.on]?).bind (·.dst) == o.dst))
theorem oldB_f {o : Oper} {t : Nat} (h : oldB md ops o t = false) : ∃ (j : Nat) (p : Oper), ops[j]? = some p ∧ p.dst = some t := by
  unfold oldB at h
  rw [Array.all_eq_false] at h
  obtain ⟨j, hj, h⟩ := h
  refine ⟨j, ops[j], Array.getElem?_eq_getElem hj, ?_⟩
  simp only [Bool.or_eq_false_iff, bne_eq_false_iff_eq, Bool.not_eq_true] at h
  exact h.1
theorem oldB_t {o : Oper} {t j : Nat} {p : Oper} (h : oldB md ops o t = true) (hp : ops[j]? = some p) (hd : p.dst = some t) : ∃ d, o.dst = some d ∧ ∃ e ∈ p.after, Region.binds md e = true ∧ (ops[e.on]?).bind (·.dst) = some d := by
  unfold oldB at h
  rw [Array.all_eq_true_iff_forall_mem] at h
  have h1 := h p (Array.mem_of_getElem? hp)
  rw [hd] at h1
  simp only [bne_self_eq_false, Bool.false_or, Bool.and_eq_true, Array.any_eq_true', beq_iff_eq] at h1
  obtain ⟨hs, e, he, hb, hq⟩ := h1
  obtain ⟨d, hd'⟩ := Option.isSome_iff_exists.1 hs
  exact ⟨d, hd', e, he, hb, by rw [hq, hd']⟩
/-- What has come up has left what it should, all else is as it was. -/
structure RegI (md : Region.Mode) (ops : Array Oper) (C : World → Prop) (V : Nat → Value → World → Prop) (a0 : Act) (listed : Array Bool) (a : Act) (w : World) : Prop where
  size : listed.size = ops.size
  clo : ∀ j p, ops[j]? = some p → listed.getD j false = true → ∀ e ∈ p.after, Region.binds md e = true → listed.getD e.on false = true
  cls : C w
  defers : a.defers = a0.defers
  tsize : a.tmps.size = a0.tmps.size
  old : ∀ t, (∀ i o, ops[i]? = some o → listed.getD i false = true → o.dst ≠ some t) → a.tmps.getD t undef = a0.tmps.getD t undef
  new : ∀ i o d, ops[i]? = some o → listed.getD i false = true → o.dst = some d → V d (a.tmps.getD d undef) w
/-- One operation, in whatever state what it looks at is there. -/
def OpOk (P : Program) (ops : Array Oper) (C : World → Prop) (St : World → World → Prop) (V : Nat → Value → World → Prop) (a0 : Act) (o : Oper) : Prop :=
  ∀ (Q : Exit → Act → World → Prop) (a : Act) (w : World), C w → (∀ t, Operand.tmp t ∈ o.op.operands → oldB .any ops o t = false → V t (a.eval (.tmp t)) w) → (∀ t, Operand.tmp t ∈ o.op.operands → oldB .any ops o t = true → a.eval (.tmp t) = a0.eval (.tmp t)) →
    o.wp P a w (fun a' w' => ∃ v, a' = a.put o.dst v ∧ C w' ∧ St w w' ∧ ∀ d, o.dst = some d → V d v w') Q
/-- What is asked of the region's own shape, in one Boolean. -/
def regB (md : Region.Mode) (ops : Array Oper) (n : Nat) : Bool :=
  (List.range ops.size).all fun i => match ops[i]? with
    | none => true
    | some o => o.guard.isNone && (match o.dst with | some d => decide (d < n) | none => true) &&
      o.after.all (fun e => !Region.binds md e || decide (e.on < i)) &&
      (List.range ops.size).all (fun j => match ops[j]? with
        | none => true
        | some p => (match p.dst with
          | none => true
          | some d => (decide (i = j) || o.dst != some d) && (!((slotsOf o).contains d) || oldB md ops o d || o.after.any (fun e => Region.binds md e && e.on == j))))
theorem regB_at {n i : Nat} {o : Oper} (h : regB md ops n = true) (hi : ops[i]? = some o) : o.guard = none ∧ (∀ d, o.dst = some d → d < n) ∧ (∀ e ∈ o.after, Region.binds md e = true → e.on < i) ∧
    ∀ j p d, ops[j]? = some p → p.dst = some d → (i = j ∨ o.dst ≠ some d) ∧ (Operand.tmp d ∈ o.op.operands → oldB md ops o d = false → ∃ e ∈ o.after, Region.binds md e = true ∧ e.on = j) := by
  have hlt := (Array.getElem?_eq_some_iff.1 hi).1
  have h1 := List.all_eq_true.1 h i (List.mem_range.2 hlt)
  simp only [hi, Bool.and_eq_true] at h1
  obtain ⟨⟨⟨hg, hd⟩, he⟩, hj⟩ := h1
  refine ⟨by simpa using hg, fun d hd' => by rw [hd'] at hd; simpa using hd, fun e hm hb => ?_, fun j p d hp hpd => ?_⟩
  · have := Array.all_eq_true'.1 he e hm
    simpa [hb] using this
  · have hltj := (Array.getElem?_eq_some_iff.1 hp).1
    have h2 := List.all_eq_true.1 hj j (List.mem_range.2 hltj)
    simp only [hp, hpd, Bool.and_eq_true] at h2
    refine ⟨by simpa using h2.1, fun hm ho => ?_⟩
    have h3 := h2.2
    have hc : (slotsOf o).contains d = true := by simpa using slotsOf_mem hm
    rw [hc, ho] at h3
    simp only [Bool.not_true, Bool.false_or, Array.any_eq_true', Bool.and_eq_true, beq_iff_eq] at h3
    exact h3
theorem all_listed {n : Nat} {listed : Array Bool} (hB : regB md ops n = true) (hs : listed.size = ops.size) (hr : Region.ready md ops listed = []) : ∀ i, i < ops.size → listed.getD i false = true := by
  intro i
  induction i using Nat.strongRecOn with
  | ind i ih =>
    intro hi
    cases h : listed.getD i false with
    | true => rfl
    | false =>
      have ho : ops[i]? = some ops[i] := Array.getElem?_eq_getElem hi
      have hmem : i ∈ Region.ready md ops listed := by
        refine mem_ready.2 ⟨by simp [Array.getD, hs, hi] at h ⊢; exact h, ops[i], ho, fun e he hb => ?_⟩
        have := (regB_at hB ho).2.2.1 e he hb
        exact ih e.on this (by omega)
      rw [hr] at hmem
      cases hmem
/-- All slots as they are at the end. -/
def putAll (f : Nat → Value) : List Oper → Act → Act
  | [], a => a
  | o :: l, a => putAll f l (a.put o.dst (match o.dst with | some d => f d | none => undef))
theorem putAll_facts (f : Nat → Value) : ∀ (l : List Oper) (a : Act), (putAll f l a).defers = a.defers ∧ (putAll f l a).tmps.size = a.tmps.size ∧ ∀ t, t < a.tmps.size → (putAll f l a).tmps.getD t undef = if l.any (fun o => o.dst == some t) = true then f t else a.tmps.getD t undef
  | [], a => ⟨rfl, rfl, fun t _ => by simp [putAll]⟩
  | o :: l, a => by
    obtain ⟨dst, op, type, pos, after, guard⟩ := o
    cases dst with
    | none =>
      have h := putAll_facts f l a
      refine ⟨h.1, h.2.1, fun t ht => ?_⟩
      have := h.2.2 t ht
      simpa [putAll, Act.put] using this
    | some d =>
      have h := putAll_facts f l (a.put (some d) (f d))
      have hs : (a.put (some d) (f d)).tmps.size = a.tmps.size := by simp [Act.put]
      refine ⟨h.1, h.2.1.trans hs, fun t ht => ?_⟩
      have h2 := h.2.2 t (by omega)
      show (putAll f l (a.put (some d) (f d))).tmps.getD t undef = _
      rw [h2, List.any_cons]
      by_cases ha : l.any (fun o => o.dst == some t) = true
      · rw [if_pos ha, if_pos (by rw [ha]; simp)]
      · rw [if_neg ha]
        by_cases hd : d = t
        · subst hd
          rw [if_pos (by simp)]
          simp [Act.put, Array.getD, ht]
        · rw [if_neg (by simp [hd]; simpa using ha)]
          exact getD_put_ne hd
theorem act_ext {a b : Act} (hd : a.defers = b.defers) (hs : a.tmps.size = b.tmps.size) (h : ∀ t, t < b.tmps.size → a.tmps.getD t undef = b.tmps.getD t undef) : a = b := by
  obtain ⟨at', ad⟩ := a
  obtain ⟨bt, bd⟩ := b
  simp only at hd hs h
  subst hd
  congr 1
  apply Array.ext hs
  intro i h1 h2
  have := h i h2
  simpa [Array.getD, h1, h2] using this
/-- **The region, in whatever order.** -/
theorem wp_region_inv {id : Nat} {a0 : Act} {w0 : World} {l : List Oper} (hm : P.follows .mixedOrders = true) (C : World → Prop) (St : World → World → Prop) (V : Nat → Value → World → Prop) (hB : regB .any l.toArray a0.tmps.size = true)
    (hC : C { w0 with drawn := w0.drawn + 1 }) (hV : ∀ d v w w', C w → St w w' → V d v w → V d v w') (hops : ∀ o ∈ l, OpOk P l.toArray C St V a0 o)
    (hend : ∀ (f : Nat → Value) (w : World), C w → (∀ o ∈ l, ∀ d, o.dst = some d → V d (f d) w) → Q .normal (putAll f l a0) w) : (Code.region id l.toArray true).wp P Q a0 w0 := by
  refine wp_region_any hm (wpAny_inv (RegI .any l.toArray C V a0) ?_ ?_ _ _ _ _ ?_ ?_)
  · intro listed a w hI i hi
    obtain ⟨hun, o, ho, hall⟩ := mem_ready.1 hi
    have hat := regB_at hB ho
    have hwant : Region.wanted o (yielded l.toArray a.tmps) = true := by simp [Region.wanted, hat.1]
    have hmem : o ∈ l := by
      have := Array.mem_of_getElem? ho
      simpa using this
    have hrun := hops o hmem Q a w hI.cls (fun t ht hin => ?_) (fun t ht hin => ?_)
    · unfold wpOp
      simp only [ho, hwant, if_true]
      refine .inl (Oper.wp_mono (fun a' w' h' => ?_) hrun)
      obtain ⟨v, rfl, hC', hSt, hv⟩ := h'
      have hltl : i < listed.size := by rw [hI.size]; exact (Array.getElem?_eq_some_iff.1 ho).1
      refine ⟨by simpa using hI.size, fun j p hp hl e he hb => ?_, hC', ?_, ?_, fun t ht => ?_, fun j p d hp hl hd => ?_⟩
      · have hup : ∀ k, listed.getD k false = true → (listed.setIfInBounds i true).getD k false = true := fun k hk => by
          by_cases q : k = i
          · subst q; exact set_getD_self hltl
          · rw [set_getD_ne q]; exact hk
        by_cases hj : j = i
        · subst hj
          rw [ho] at hp
          obtain rfl := Option.some.inj hp
          exact hup _ (hall e he hb)
        · rw [set_getD_ne hj] at hl
          exact hup _ (hI.clo j p hp hl e he hb)
      · cases hdst : o.dst <;> simp [Act.put, hI.defers]
      · cases hdst : o.dst <;> simp [Act.put, hI.tsize]
      · have hne : o.dst ≠ some t := ht i o ho (set_getD_self hltl)
        have h1 := hI.old t (fun j p hp hl => ht j p hp (by
          by_cases hj : j = i
          · subst hj; exact set_getD_self hltl
          · rw [set_getD_ne hj]; exact hl))
        rw [← h1]
        cases hdst : o.dst with
        | none => rfl
        | some d =>
          have hdt : d ≠ t := fun e => hne (by rw [hdst, e])
          exact getD_put_ne hdt
      · by_cases hj : j = i
        · subst hj
          rw [ho] at hp
          obtain rfl := Option.some.inj hp
          have hdl := hat.2.1 d hd
          have : (a.put o.dst v).tmps.getD d undef = v := by
            rw [hd]; simp [Act.put, Array.getD, hI.tsize, hdl]
          rw [this]
          exact hv d hd
        · have hl' : listed.getD j false = true := by rw [set_getD_ne hj] at hl; exact hl
          have hne : o.dst ≠ some d := ((hat.2.2.2 j p d hp hd).1).resolve_left (Ne.symm hj)
          have hold := hI.new j p d hp hl' hd
          have : (a.put o.dst v).tmps.getD d undef = a.tmps.getD d undef := by
            cases hdst : o.dst with
            | none => rfl
            | some d' =>
              have hdt : d' ≠ d := fun e => hne (by rw [hdst, e])
              exact getD_put_ne hdt
          rw [this]
          exact hV d _ _ _ hI.cls hSt hold
    · obtain ⟨j, p, hp, hd⟩ := oldB_f hin
      obtain ⟨e, he, hb, rfl⟩ := (hat.2.2.2 j p t hp hd).2 (by simpa using ht) hin
      exact hI.new e.on p t hp (hall e he hb) hd
    · refine hI.old t (fun j p hp hl hd => ?_)
      obtain ⟨d, hod, e, he, hb, hq⟩ := oldB_t hin hp hd
      have hel := hI.clo j p hp hl e he hb
      cases hqq : l.toArray[e.on]? with
      | none => rw [hqq] at hq; cases hq
      | some q =>
        rw [hqq] at hq
        rcases (hat.2.2.2 e.on q d hqq hq).1 with rfl | h
        · have hlt : e.on < listed.size := by rw [hI.size]; exact (Array.getElem?_eq_some_iff.1 hqq).1
          simp only [Array.getD, hlt, dif_pos] at hel hun
          rw [hel] at hun
          cases hun
        · exact h hod
  · intro listed a w hI hr
    have hal := all_listed hB hI.size hr
    have hput := putAll_facts (fun d => a.tmps.getD d undef) l a0
    have ha : a = putAll (fun d => a.tmps.getD d undef) l a0 := by
      refine act_ext (hI.defers.trans hput.1.symm) (hI.tsize.trans hput.2.1.symm) (fun t ht => ?_)
      rw [hput.2.1] at ht
      rw [hput.2.2 t ht]
      by_cases h : l.any (fun o => o.dst == some t) = true
      · rw [if_pos h]
      · rw [if_neg h]
        refine hI.old t (fun i o ho _ hd => h ?_)
        rw [List.any_eq_true]
        exact ⟨o, by have := Array.mem_of_getElem? ho; simpa using this, by rw [hd]; simp⟩
    rw [ha]
    refine hend _ w hI.cls (fun o ho d hd => ?_)
    obtain ⟨i, hi⟩ := List.mem_iff_getElem?.1 ho
    have hi' : l.toArray[i]? = some o := by simpa using hi
    exact hI.new i o d hi' (hal i (Array.getElem?_eq_some_iff.1 hi').1) hd
  · unfold openOps
    exact Nat.le_trans (List.length_filter_le _ _) (by simp)
  · refine ⟨by simp, fun j p _ hl => ?_, hC, rfl, rfl, fun t _ => rfl, fun i o d ho hl _ => ?_⟩
    · simp [Array.getD] at hl
    · simp [Array.getD] at hl
/-- An operation that yields a value and leaves a world of the class. -/
theorem op_val {C : World → Prop} {St : World → World → Prop} {V : Nat → Value → World → Prop} {o : Oper} {a : Act} {w w' : World} (v : Value) (h : (execOp a.eval o).run P w = .ok (.value v) w') (hC : C w') (hS : St w w') (hv : ∀ d, o.dst = some d → V d v w') :
    o.wp P a w (fun a' w' => ∃ v, a' = a.put o.dst v ∧ C w' ∧ St w w' ∧ ∀ d, o.dst = some d → V d v w') Q := by
  unfold Oper.wp
  rw [h]
  exact ⟨v, rfl, hC, hS, hv⟩
/-- A call under a contract. -/
theorem op_call {C : World → Prop} {St : World → World → Prop} {V : Nat → Value → World → Prop} {o : Oper} {a : Act} {w : World} {f : FuncId} {args : Array Value} {R : Value → World → Prop} (h : (execOp a.eval o).run P w = .ok (.enter f args) w)
    (hc : Calls P f args w fun e w' => ∃ v, e = .returned v ∧ R v w') (hR : ∀ v w', R v w' → C w' ∧ St w w' ∧ ∀ d, o.dst = some d → V d v w') :
    o.wp P a w (fun a' w' => ∃ v, a' = a.put o.dst v ∧ C w' ∧ St w w' ∧ ∀ d, o.dst = some d → V d v w') Q := by
  unfold Oper.wp
  rw [h]
  refine Calls.mono hc (fun e w' he => ?_)
  obtain ⟨v, rfl, hr⟩ := he
  obtain ⟨h1, h2, h3⟩ := hR v w' hr
  exact ⟨v, rfl, h1, h2, h3⟩
end
end Go.Proofs.YtgpgkgahbkmdiaaDoor

/- Contract of spec.l06Head. -/
namespace Go.Proofs.YtgpgkgahbkmdiaaDoor
open Go.ChangeShapes Go.WideShapes Go.ChangeAt Go.RowKit Go.Deep

set_option maxHeartbeats 6400000 in
set_option maxRecDepth 8000 in
theorem l06Head_spec (k : Int) (p l : ByteArray) (m u g t : Int) (us gr b nm fl : ByteArray) (sz : Int) (w : World) (hl : l.size ≤ 100000) (hus : us.size ≤ 100000) (hgr : gr.size ≤ 100000) (hnm : nm.size ≤ 100000) (hfl : fl.size ≤ 100000) (nm0 : 0 ≤ m ∧ m ≤ 4095) (nu : 0 ≤ u ∧ u ≤ 9007199254740991) (ng : 0 ≤ g ∧ g ≤ 9007199254740991) (nt : 0 ≤ t ∧ t ≤ 9007199254740991) (ns : 0 ≤ sz ∧ sz ≤ 3001) :
    Calls Tryd.prog 23 #[.string nm, .agg #[.int .i64 k, .string p, .string l, .int .i64 m, .int .i64 u, .int .i64 g, .int .i64 t, .string us, .string gr, .string b], .string fl, .int .i64 sz] w fun e w' => e = .returned (.string (lhdv ⟨k, p, l, m, u, g, t, us, gr, b⟩ nm fl sz)) ∧ Below w.heap.size w w' := by
  have p7 : (8 : Nat) ^ (8 - 1) = 2097152 := by decide
  have p11 : (8 : Nat) ^ (12 - 1) = 8589934592 := by decide
  have HQn := Lib.hid (fun w => l06First_any nm w (by omega))
  have HQl := Lib.hid (fun w => l06First_any l w (by omega))
  have qzn := first_size nm
  have qzl := first_size l
  have HN := Lib.hid (fun w => fill_spec (firstv nm) 100 w (by omega))
  have HLk := Lib.hid (fun w => fill_spec (firstv l) 100 w (by omega))
  have HU := Lib.hid (fun w => fill_spec us 32 w (by omega))
  have HG := Lib.hid (fun w => fill_spec gr 32 w (by omega))
  have HZ := Lib.hid (fun w => nuls_spec 167 w (by omega))
  have HOm := Lib.hid (fun w => l04Oct_spec m 8 w (by omega) (by omega))
  have em : numz m ((8 : Nat)) = octz m ((8 : Nat) : Int) := numz_oct nm0.1 (by omega) (by omega) (by omega)
  have HOu := Lib.hid (fun w => l06Num_spec u 8 2097151 w nu.1 nu.2 (by omega) (by omega) (by decide))
  have HOg := Lib.hid (fun w => l06Num_spec g 8 2097151 w ng.1 ng.2 (by omega) (by omega) (by decide))
  have HOs := Lib.hid (fun w => l04Oct_spec sz 12 w (by omega) (by omega))
  have es : numz sz ((12 : Nat)) = octz sz ((12 : Nat) : Int) := numz_oct ns.1 (by omega) (by omega) (by omega)
  have HOt := Lib.hid (fun w => l06Num_spec t 12 8589934591 w nt.1 nt.2 (by omega) (by omega) (by decide))
  have HO0 := Lib.hid (fun w => l04Oct_spec 0 8 w (by omega) (by omega))
  have zfn := fill_size (firstv nm) 100 (by omega)
  have zfl := fill_size (firstv l) 100 (by omega)
  have zfu := fill_size us 32 (by omega)
  have zfg := fill_size gr 32 (by omega)
  have zz := nulv_size 167
  have zom := octz_size m 8
  have zou := numz_size (n := u) (x := 8) nu.1 nu.2 (by omega) (by omega)
  have zog := numz_size (n := g) (x := 8) ng.1 ng.2 (by omega) (by omega)
  have zos := octz_size sz 12
  have zot := numz_size (n := t) (x := 12) nt.1 nt.2 (by omega) (by omega)
  have zo0 := octz_size 0 8
  have zlit : (⟨#[117, 115, 116, 97, 114, 32, 32, 0]⟩ : ByteArray).size = 8 := rfl
  have HE : Hid (lhdv ⟨k, p, l, m, u, g, t, us, gr, b⟩ nm fl sz = hdA ⟨k, p, l, m, u, g, t, us, gr, b⟩ (firstv nm) sz ++ (putOctv (sumv (hdA ⟨k, p, l, m, u, g, t, us, gr, b⟩ (firstv nm) sz).data.toList + 256 + sumv (headB ⟨k, p, firstv l, m, u, g, t, us, gr, b⟩ ⟨#[]⟩ fl magicG).data.toList) 6).1 ++ ⟨#[0, 32]⟩ ++ headB ⟨k, p, firstv l, m, u, g, t, us, gr, b⟩ ⟨#[]⟩ fl magicG) := Lib.hid rfl
  have HEA : Hid (hdA ⟨k, p, l, m, u, g, t, us, gr, b⟩ (firstv nm) sz = fillv (firstv nm) 100 ++ octz m 8 ++ numz u 8 ++ numz g 8 ++ octz sz 12 ++ numz t 12) := Lib.hid (by
    show fillv (firstv nm) 100 ++ numz m 8 ++ numz u 8 ++ numz g 8 ++ numz sz 12 ++ numz t 12 = _
    rw [em, es]; rfl)
  have HEB : Hid (headB ⟨k, p, firstv l, m, u, g, t, us, gr, b⟩ ⟨#[]⟩ fl magicG = fl ++ fillv (firstv l) 100 ++ ⟨#[117, 115, 116, 97, 114, 32, 32, 0]⟩ ++ fillv us 32 ++ fillv gr 32 ++ octz 0 8 ++ octz 0 8 ++ nulv 167) := Lib.hid (by
    rw [← nul_167]
    apply ba_ext
    simp [headB, magicG])
  clear em es p7 p11 nu ng nt ns nm0
  generalize lhdv ⟨k, p, l, m, u, g, t, us, gr, b⟩ nm fl sz = r at HE
  generalize hdA ⟨k, p, l, m, u, g, t, us, gr, b⟩ (firstv nm) sz = hA at HE HEA
  generalize headB ⟨k, p, firstv l, m, u, g, t, us, gr, b⟩ ⟨#[]⟩ fl magicG = hB at HE HEB
  rw [show ((167 : Int).toNat) = 167 from rfl] at HZ
  generalize fillv (firstv nm) 100 = fn at *
  generalize fillv (firstv l) 100 = fll at *
  generalize fillv us 32 = fu at *
  generalize fillv gr 32 = fg at *
  generalize nulv 167 = z12 at *
  generalize octz m 8 = om at *
  generalize numz u 8 = ou at *
  generalize numz g 8 = og at *
  generalize octz sz 12 = os at *
  generalize numz t 12 = ot at *
  generalize octz 0 8 = o0 at *
  generalize firstv nm = qn at *
  generalize firstv l = ql at *
  simp only [show ((100 : Int).toNat) = 100 from rfl, show ((32 : Int).toNat) = 32 from rfl] at zfn zfl zfu zfg
  simp only [show (((8 : Nat) : Int)) = 8 from rfl, show (((12 : Nat) : Int)) = 12 from rfl] at HOu HOg HOt
  go_enter Tryd.func23, Tryd.ntmps23
  go_wp2_with fail
  have E0 := EntAt.new w ⟨k, p, l, m, u, g, t, us, gr, b⟩ 26
  have B0 := (Below.refl w.heap.size w).alloc (Nat.le_refl _) (.cells (Ent.cells ⟨k, p, l, m, u, g, t, us, gr, b⟩).toArray 26)
  have z0 : w.heap.size < (w.alloc (.cells (Ent.cells ⟨k, p, l, m, u, g, t, us, gr, b⟩).toArray 26)).heap.size := by simp
  simp only [Ent.cells] at E0 B0 z0
  generalize w.alloc (.cells #[.int .i64 k, .string p, .string l, .int .i64 m, .int .i64 u, .int .i64 g, .int .i64 t, .string us, .string gr, .string b] 26) = w1 at *
  have E1 := Lib.hid E0
  have B1 := Lib.hid B0
  clear E0 B0
  have KC : Hid (∀ w', Below w1.heap.size w1 w' → w'.cell? ⟨w.heap.size, 1, none⟩ = some (.string p) ∧ w'.cell? ⟨w.heap.size, 2, none⟩ = some (.string l) ∧ w'.cell? ⟨w.heap.size, 3, none⟩ = some (.int .i64 m) ∧ w'.cell? ⟨w.heap.size, 4, none⟩ = some (.int .i64 u) ∧ w'.cell? ⟨w.heap.size, 5, none⟩ = some (.int .i64 g) ∧ w'.cell? ⟨w.heap.size, 6, none⟩ = some (.int .i64 t) ∧ w'.cell? ⟨w.heap.size, 7, none⟩ = some (.string us) ∧ w'.cell? ⟨w.heap.size, 8, none⟩ = some (.string gr)) := Lib.hid (fun w' hb => by obtain ⟨c0, c1, c2, c3, c4, c5, c6, c7, c8, c9⟩ := (E1.out.below hb z0).zero; exact ⟨c1, c2, c3, c4, c5, c6, c7, c8⟩)
  obtain ⟨x19, hx19⟩ : ∃ x : ByteArray, x = fn ++ om := ⟨_, rfl⟩
  obtain ⟨x23, hx23⟩ : ∃ x : ByteArray, x = x19 ++ ou := ⟨_, rfl⟩
  obtain ⟨x27, hx27⟩ : ∃ x : ByteArray, x = x23 ++ og := ⟨_, rfl⟩
  obtain ⟨x30, hx30⟩ : ∃ x : ByteArray, x = x27 ++ os := ⟨_, rfl⟩
  obtain ⟨x34, hx34⟩ : ∃ x : ByteArray, x = x30 ++ ot := ⟨_, rfl⟩
  have zx19 : x19.size ≤ 100121 := by rw [hx19, ByteArray.size_append]; omega
  have zx23 : x23.size ≤ 100142 := by rw [hx23, ByteArray.size_append]; omega
  have zx27 : x27.size ≤ 100163 := by rw [hx27, ByteArray.size_append]; omega
  have zx30 : x30.size ≤ 100184 := by rw [hx30, ByteArray.size_append]; omega
  have zx34 : x34.size ≤ 100205 := by rw [hx34, ByteArray.size_append]; omega
  have HA19 : Hid (∀ w, (Op.stringOp .add fn om).run Tryd.prog w = .ok (.string x19) w) := Lib.hid (fun w => by rw [hx19]; exact run_string_add_sum w _ _ (by omega))
  have HA23 : Hid (∀ w, (Op.stringOp .add x19 ou).run Tryd.prog w = .ok (.string x23) w) := Lib.hid (fun w => by rw [hx23]; exact run_string_add_sum w _ _ (by omega))
  have HA27 : Hid (∀ w, (Op.stringOp .add x23 og).run Tryd.prog w = .ok (.string x27) w) := Lib.hid (fun w => by rw [hx27]; exact run_string_add_sum w _ _ (by omega))
  have HA30 : Hid (∀ w, (Op.stringOp .add x27 os).run Tryd.prog w = .ok (.string x30) w) := Lib.hid (fun w => by rw [hx30]; exact run_string_add_sum w _ _ (by omega))
  have HA34 : Hid (∀ w, (Op.stringOp .add x30 ot).run Tryd.prog w = .ok (.string x34) w) := Lib.hid (fun w => by rw [hx34]; exact run_string_add_sum w _ _ (by omega))
  have HX19 := Lib.hid hx19
  have HX23 := Lib.hid hx23
  have HX27 := Lib.hid hx27
  have HX30 := Lib.hid hx30
  have HX34 := Lib.hid hx34
  clear hx19 hx23 hx27 hx30 hx34
  refine wp_region_inv (by kernel_rfl) (fun w' => Below w1.heap.size w1 w') (fun x y => Below x.heap.size x y) (fun d v _ => match d with | 13 => v = .string nm | 14 => v = .string qn | 15 => v = .string fn | 16 => v = .pointer (some ⟨w.heap.size, 3, none⟩) | 17 => v = .int .i64 m | 18 => v = .string om | 19 => v = .string x19 | 20 => v = .pointer (some ⟨w.heap.size, 4, none⟩) | 21 => v = .int .i64 u | 22 => v = .string ou | 23 => v = .string x23 | 24 => v = .pointer (some ⟨w.heap.size, 5, none⟩) | 25 => v = .int .i64 g | 26 => v = .string og | 27 => v = .string x27 | 28 => v = .int .i64 sz | 29 => v = .string os | 30 => v = .string x30 | 31 => v = .pointer (some ⟨w.heap.size, 6, none⟩) | 32 => v = .int .i64 t | 33 => v = .string ot | 34 => v = .string x34 | 9 => v = .string x34 | _ => True) (by kernel_rfl) ((Below.refl _ _).drew) (fun _ _ _ _ _ _ h => h) ?hops ?hend
  case hops =>
    simp only [List.forall_mem_cons]
    refine ⟨?o13, ?o14, ?o15, ?o16, ?o17, ?o18, ?o19, ?o20, ?o21, ?o22, ?o23, ?o24, ?o25, ?o26, ?o27, ?o28, ?o29, ?o30, ?o31, ?o32, ?o33, ?o34, ?o9, fun _ h => by cases h⟩
    case o13 =>
      intro Q a w2 hC hV hI
      have e0 : a.eval (.tmp 0) = .string nm := (hI 0 (by simp [Op.operands]) (by kernel_rfl)).trans rfl
      have f0 : a.tmps.getD 0 undef = .string nm := e0
      have g0 : a.tmps[0]?.getD undef = .string nm := by rw [← Array.getD_eq_getD_getElem?]; exact e0
      refine op_val (.string nm) ?_ hC (Below.refl _ _) (by intro d hd; cases hd; rfl)
      (clear hV hI hC; go_simp <;> (first | rfl | simp))
    case o14 =>
      intro Q a w2 hC hV hI
      have e13 : a.eval (.tmp 13) = .string nm := hV 13 (by simp [Op.operands, Call.operands]) (by kernel_rfl)
      have f13 : a.tmps.getD 13 undef = .string nm := e13
      have g13 : a.tmps[13]?.getD undef = .string nm := by rw [← Array.getD_eq_getD_getElem?]; exact e13
      refine op_call (f := 43) (args := #[.string nm, .int .i64 100]) (R := fun v y => v = .string qn ∧ w2 = y) ?_ ((HQn.out w2).mono ?_) ?_
      · (clear hV hI hC; go_simp <;> (first | rfl | simp))
      · rintro e y ⟨rfl, rfl⟩; exact ⟨_, rfl, rfl, rfl⟩
      · rintro v y ⟨rfl, rfl⟩; exact ⟨hC, Below.refl _ _, by intro d hd; cases hd; rfl⟩
    case o15 =>
      intro Q a w2 hC hV hI
      have e14 : a.eval (.tmp 14) = .string qn := hV 14 (by simp [Op.operands, Call.operands]) (by kernel_rfl)
      have f14 : a.tmps.getD 14 undef = .string qn := e14
      have g14 : a.tmps[14]?.getD undef = .string qn := by rw [← Array.getD_eq_getD_getElem?]; exact e14
      refine op_call (f := 29) (args := #[.string qn, .int .i64 100]) (R := fun v y => v = .string fn ∧ Below w2.heap.size w2 y) ?_ ((HN.out w2).mono ?_) ?_
      · (clear hV hI hC; go_simp <;> (first | rfl | simp))
      · rintro e y ⟨rfl, hb⟩; exact ⟨_, rfl, rfl, hb⟩
      · rintro v y ⟨rfl, hb⟩; exact ⟨hC.trans (hb.mono hC.size), hb, by intro d hd; cases hd; rfl⟩
    case o16 =>
      intro Q a w2 hC hV hI
      have e5 : a.eval (.tmp 5) = .pointer (some ⟨w.heap.size, 0, none⟩) := (hI 5 (by simp [Op.operands]) (by kernel_rfl)).trans rfl
      have f5 : a.tmps.getD 5 undef = .pointer (some ⟨w.heap.size, 0, none⟩) := e5
      have g5 : a.tmps[5]?.getD undef = .pointer (some ⟨w.heap.size, 0, none⟩) := by rw [← Array.getD_eq_getD_getElem?]; exact e5
      refine op_val (.pointer (some ⟨w.heap.size, 3, none⟩)) ?_ hC (Below.refl _ _) (by intro d hd; cases hd; rfl)
      (clear hV hI hC; go_simp <;> (first | rfl | simp))
    case o17 =>
      intro Q a w2 hC hV hI
      have e16 : a.eval (.tmp 16) = .pointer (some ⟨w.heap.size, 3, none⟩) := hV 16 (by simp [Op.operands]) (by kernel_rfl)
      have f16 : a.tmps.getD 16 undef = .pointer (some ⟨w.heap.size, 3, none⟩) := e16
      have g16 : a.tmps[16]?.getD undef = .pointer (some ⟨w.heap.size, 3, none⟩) := by rw [← Array.getD_eq_getD_getElem?]; exact e16
      have hK := KC.out w2 hC
      refine op_val (.int .i64 m) ?_ hC (Below.refl _ _) (by intro d hd; cases hd; rfl)
      (clear hV hI hC; go_simp <;> (first | rfl | simp))
    case o18 =>
      intro Q a w2 hC hV hI
      have e17 : a.eval (.tmp 17) = .int .i64 m := hV 17 (by simp [Op.operands, Call.operands]) (by kernel_rfl)
      have f17 : a.tmps.getD 17 undef = .int .i64 m := e17
      have g17 : a.tmps[17]?.getD undef = .int .i64 m := by rw [← Array.getD_eq_getD_getElem?]; exact e17
      refine op_call (f := 30) (args := #[.int .i64 m, .int .i64 8]) (R := fun v y => v = .string om ∧ w2 = y) ?_ ((HOm.out w2).mono ?_) ?_
      · (clear hV hI hC; go_simp <;> (first | rfl | simp))
      · rintro e y ⟨rfl, rfl⟩; exact ⟨_, rfl, rfl, rfl⟩
      · rintro v y ⟨rfl, rfl⟩; exact ⟨hC, Below.refl _ _, by intro d hd; cases hd; rfl⟩
    case o19 =>
      intro Q a w2 hC hV hI
      have e15 : a.eval (.tmp 15) = .string fn := hV 15 (by simp [Op.operands]) (by kernel_rfl)
      have f15 : a.tmps.getD 15 undef = .string fn := e15
      have g15 : a.tmps[15]?.getD undef = .string fn := by rw [← Array.getD_eq_getD_getElem?]; exact e15
      have e18 : a.eval (.tmp 18) = .string om := hV 18 (by simp [Op.operands]) (by kernel_rfl)
      have f18 : a.tmps.getD 18 undef = .string om := e18
      have g18 : a.tmps[18]?.getD undef = .string om := by rw [← Array.getD_eq_getD_getElem?]; exact e18
      refine op_val (.string x19) ?_ hC (Below.refl _ _) (by intro d hd; cases hd; rfl)
      have q := HA19.out w2
      (clear hV hI hC; go_simp <;> (first | rfl | simp))
    case o20 =>
      intro Q a w2 hC hV hI
      have e5 : a.eval (.tmp 5) = .pointer (some ⟨w.heap.size, 0, none⟩) := (hI 5 (by simp [Op.operands]) (by kernel_rfl)).trans rfl
      have f5 : a.tmps.getD 5 undef = .pointer (some ⟨w.heap.size, 0, none⟩) := e5
      have g5 : a.tmps[5]?.getD undef = .pointer (some ⟨w.heap.size, 0, none⟩) := by rw [← Array.getD_eq_getD_getElem?]; exact e5
      refine op_val (.pointer (some ⟨w.heap.size, 4, none⟩)) ?_ hC (Below.refl _ _) (by intro d hd; cases hd; rfl)
      (clear hV hI hC; go_simp <;> (first | rfl | simp))
    case o21 =>
      intro Q a w2 hC hV hI
      have e20 : a.eval (.tmp 20) = .pointer (some ⟨w.heap.size, 4, none⟩) := hV 20 (by simp [Op.operands]) (by kernel_rfl)
      have f20 : a.tmps.getD 20 undef = .pointer (some ⟨w.heap.size, 4, none⟩) := e20
      have g20 : a.tmps[20]?.getD undef = .pointer (some ⟨w.heap.size, 4, none⟩) := by rw [← Array.getD_eq_getD_getElem?]; exact e20
      have hK := KC.out w2 hC
      refine op_val (.int .i64 u) ?_ hC (Below.refl _ _) (by intro d hd; cases hd; rfl)
      (clear hV hI hC; go_simp <;> (first | rfl | simp))
    case o22 =>
      intro Q a w2 hC hV hI
      have e21 : a.eval (.tmp 21) = .int .i64 u := hV 21 (by simp [Op.operands, Call.operands]) (by kernel_rfl)
      have f21 : a.tmps.getD 21 undef = .int .i64 u := e21
      have g21 : a.tmps[21]?.getD undef = .int .i64 u := by rw [← Array.getD_eq_getD_getElem?]; exact e21
      refine op_call (f := 44) (args := #[.int .i64 u, .int .i64 8, .int .i64 2097151]) (R := fun v y => v = .string ou ∧ Below w2.heap.size w2 y) ?_ ((HOu.out w2).mono ?_) ?_
      · (clear hV hI hC; go_simp <;> (first | rfl | simp))
      · rintro e y ⟨rfl, hb⟩; exact ⟨_, rfl, rfl, hb⟩
      · rintro v y ⟨rfl, hb⟩; exact ⟨hC.trans (hb.mono hC.size), hb, by intro d hd; cases hd; rfl⟩
    case o23 =>
      intro Q a w2 hC hV hI
      have e19 : a.eval (.tmp 19) = .string x19 := hV 19 (by simp [Op.operands]) (by kernel_rfl)
      have f19 : a.tmps.getD 19 undef = .string x19 := e19
      have g19 : a.tmps[19]?.getD undef = .string x19 := by rw [← Array.getD_eq_getD_getElem?]; exact e19
      have e22 : a.eval (.tmp 22) = .string ou := hV 22 (by simp [Op.operands]) (by kernel_rfl)
      have f22 : a.tmps.getD 22 undef = .string ou := e22
      have g22 : a.tmps[22]?.getD undef = .string ou := by rw [← Array.getD_eq_getD_getElem?]; exact e22
      refine op_val (.string x23) ?_ hC (Below.refl _ _) (by intro d hd; cases hd; rfl)
      have q := HA23.out w2
      (clear hV hI hC; go_simp <;> (first | rfl | simp))
    case o24 =>
      intro Q a w2 hC hV hI
      have e5 : a.eval (.tmp 5) = .pointer (some ⟨w.heap.size, 0, none⟩) := (hI 5 (by simp [Op.operands]) (by kernel_rfl)).trans rfl
      have f5 : a.tmps.getD 5 undef = .pointer (some ⟨w.heap.size, 0, none⟩) := e5
      have g5 : a.tmps[5]?.getD undef = .pointer (some ⟨w.heap.size, 0, none⟩) := by rw [← Array.getD_eq_getD_getElem?]; exact e5
      refine op_val (.pointer (some ⟨w.heap.size, 5, none⟩)) ?_ hC (Below.refl _ _) (by intro d hd; cases hd; rfl)
      (clear hV hI hC; go_simp <;> (first | rfl | simp))
    case o25 =>
      intro Q a w2 hC hV hI
      have e24 : a.eval (.tmp 24) = .pointer (some ⟨w.heap.size, 5, none⟩) := hV 24 (by simp [Op.operands]) (by kernel_rfl)
      have f24 : a.tmps.getD 24 undef = .pointer (some ⟨w.heap.size, 5, none⟩) := e24
      have g24 : a.tmps[24]?.getD undef = .pointer (some ⟨w.heap.size, 5, none⟩) := by rw [← Array.getD_eq_getD_getElem?]; exact e24
      have hK := KC.out w2 hC
      refine op_val (.int .i64 g) ?_ hC (Below.refl _ _) (by intro d hd; cases hd; rfl)
      (clear hV hI hC; go_simp <;> (first | rfl | simp))
    case o26 =>
      intro Q a w2 hC hV hI
      have e25 : a.eval (.tmp 25) = .int .i64 g := hV 25 (by simp [Op.operands, Call.operands]) (by kernel_rfl)
      have f25 : a.tmps.getD 25 undef = .int .i64 g := e25
      have g25 : a.tmps[25]?.getD undef = .int .i64 g := by rw [← Array.getD_eq_getD_getElem?]; exact e25
      refine op_call (f := 44) (args := #[.int .i64 g, .int .i64 8, .int .i64 2097151]) (R := fun v y => v = .string og ∧ Below w2.heap.size w2 y) ?_ ((HOg.out w2).mono ?_) ?_
      · (clear hV hI hC; go_simp <;> (first | rfl | simp))
      · rintro e y ⟨rfl, hb⟩; exact ⟨_, rfl, rfl, hb⟩
      · rintro v y ⟨rfl, hb⟩; exact ⟨hC.trans (hb.mono hC.size), hb, by intro d hd; cases hd; rfl⟩
    case o27 =>
      intro Q a w2 hC hV hI
      have e23 : a.eval (.tmp 23) = .string x23 := hV 23 (by simp [Op.operands]) (by kernel_rfl)
      have f23 : a.tmps.getD 23 undef = .string x23 := e23
      have g23 : a.tmps[23]?.getD undef = .string x23 := by rw [← Array.getD_eq_getD_getElem?]; exact e23
      have e26 : a.eval (.tmp 26) = .string og := hV 26 (by simp [Op.operands]) (by kernel_rfl)
      have f26 : a.tmps.getD 26 undef = .string og := e26
      have g26 : a.tmps[26]?.getD undef = .string og := by rw [← Array.getD_eq_getD_getElem?]; exact e26
      refine op_val (.string x27) ?_ hC (Below.refl _ _) (by intro d hd; cases hd; rfl)
      have q := HA27.out w2
      (clear hV hI hC; go_simp <;> (first | rfl | simp))
    case o28 =>
      intro Q a w2 hC hV hI
      have e3 : a.eval (.tmp 3) = .int .i64 sz := (hI 3 (by simp [Op.operands]) (by kernel_rfl)).trans rfl
      have f3 : a.tmps.getD 3 undef = .int .i64 sz := e3
      have g3 : a.tmps[3]?.getD undef = .int .i64 sz := by rw [← Array.getD_eq_getD_getElem?]; exact e3
      refine op_val (.int .i64 sz) ?_ hC (Below.refl _ _) (by intro d hd; cases hd; rfl)
      (clear hV hI hC; go_simp <;> (first | rfl | simp))
    case o29 =>
      intro Q a w2 hC hV hI
      have e28 : a.eval (.tmp 28) = .int .i64 sz := hV 28 (by simp [Op.operands, Call.operands]) (by kernel_rfl)
      have f28 : a.tmps.getD 28 undef = .int .i64 sz := e28
      have g28 : a.tmps[28]?.getD undef = .int .i64 sz := by rw [← Array.getD_eq_getD_getElem?]; exact e28
      refine op_call (f := 30) (args := #[.int .i64 sz, .int .i64 12]) (R := fun v y => v = .string os ∧ w2 = y) ?_ ((HOs.out w2).mono ?_) ?_
      · (clear hV hI hC; go_simp <;> (first | rfl | simp))
      · rintro e y ⟨rfl, rfl⟩; exact ⟨_, rfl, rfl, rfl⟩
      · rintro v y ⟨rfl, rfl⟩; exact ⟨hC, Below.refl _ _, by intro d hd; cases hd; rfl⟩
    case o30 =>
      intro Q a w2 hC hV hI
      have e27 : a.eval (.tmp 27) = .string x27 := hV 27 (by simp [Op.operands]) (by kernel_rfl)
      have f27 : a.tmps.getD 27 undef = .string x27 := e27
      have g27 : a.tmps[27]?.getD undef = .string x27 := by rw [← Array.getD_eq_getD_getElem?]; exact e27
      have e29 : a.eval (.tmp 29) = .string os := hV 29 (by simp [Op.operands]) (by kernel_rfl)
      have f29 : a.tmps.getD 29 undef = .string os := e29
      have g29 : a.tmps[29]?.getD undef = .string os := by rw [← Array.getD_eq_getD_getElem?]; exact e29
      refine op_val (.string x30) ?_ hC (Below.refl _ _) (by intro d hd; cases hd; rfl)
      have q := HA30.out w2
      (clear hV hI hC; go_simp <;> (first | rfl | simp))
    case o31 =>
      intro Q a w2 hC hV hI
      have e5 : a.eval (.tmp 5) = .pointer (some ⟨w.heap.size, 0, none⟩) := (hI 5 (by simp [Op.operands]) (by kernel_rfl)).trans rfl
      have f5 : a.tmps.getD 5 undef = .pointer (some ⟨w.heap.size, 0, none⟩) := e5
      have g5 : a.tmps[5]?.getD undef = .pointer (some ⟨w.heap.size, 0, none⟩) := by rw [← Array.getD_eq_getD_getElem?]; exact e5
      refine op_val (.pointer (some ⟨w.heap.size, 6, none⟩)) ?_ hC (Below.refl _ _) (by intro d hd; cases hd; rfl)
      (clear hV hI hC; go_simp <;> (first | rfl | simp))
    case o32 =>
      intro Q a w2 hC hV hI
      have e31 : a.eval (.tmp 31) = .pointer (some ⟨w.heap.size, 6, none⟩) := hV 31 (by simp [Op.operands]) (by kernel_rfl)
      have f31 : a.tmps.getD 31 undef = .pointer (some ⟨w.heap.size, 6, none⟩) := e31
      have g31 : a.tmps[31]?.getD undef = .pointer (some ⟨w.heap.size, 6, none⟩) := by rw [← Array.getD_eq_getD_getElem?]; exact e31
      have hK := KC.out w2 hC
      refine op_val (.int .i64 t) ?_ hC (Below.refl _ _) (by intro d hd; cases hd; rfl)
      (clear hV hI hC; go_simp <;> (first | rfl | simp))
    case o33 =>
      intro Q a w2 hC hV hI
      have e32 : a.eval (.tmp 32) = .int .i64 t := hV 32 (by simp [Op.operands, Call.operands]) (by kernel_rfl)
      have f32 : a.tmps.getD 32 undef = .int .i64 t := e32
      have g32 : a.tmps[32]?.getD undef = .int .i64 t := by rw [← Array.getD_eq_getD_getElem?]; exact e32
      refine op_call (f := 44) (args := #[.int .i64 t, .int .i64 12, .int .i64 8589934591]) (R := fun v y => v = .string ot ∧ Below w2.heap.size w2 y) ?_ ((HOt.out w2).mono ?_) ?_
      · (clear hV hI hC; go_simp <;> (first | rfl | simp))
      · rintro e y ⟨rfl, hb⟩; exact ⟨_, rfl, rfl, hb⟩
      · rintro v y ⟨rfl, hb⟩; exact ⟨hC.trans (hb.mono hC.size), hb, by intro d hd; cases hd; rfl⟩
    case o34 =>
      intro Q a w2 hC hV hI
      have e30 : a.eval (.tmp 30) = .string x30 := hV 30 (by simp [Op.operands]) (by kernel_rfl)
      have f30 : a.tmps.getD 30 undef = .string x30 := e30
      have g30 : a.tmps[30]?.getD undef = .string x30 := by rw [← Array.getD_eq_getD_getElem?]; exact e30
      have e33 : a.eval (.tmp 33) = .string ot := hV 33 (by simp [Op.operands]) (by kernel_rfl)
      have f33 : a.tmps.getD 33 undef = .string ot := e33
      have g33 : a.tmps[33]?.getD undef = .string ot := by rw [← Array.getD_eq_getD_getElem?]; exact e33
      refine op_val (.string x34) ?_ hC (Below.refl _ _) (by intro d hd; cases hd; rfl)
      have q := HA34.out w2
      (clear hV hI hC; go_simp <;> (first | rfl | simp))
    case o9 =>
      intro Q a w2 hC hV hI
      have e34 : a.eval (.tmp 34) = .string x34 := hV 34 (by simp [Op.operands]) (by kernel_rfl)
      have f34 : a.tmps.getD 34 undef = .string x34 := e34
      have g34 : a.tmps[34]?.getD undef = .string x34 := by rw [← Array.getD_eq_getD_getElem?]; exact e34
      refine op_val (.string x34) ?_ hC (Below.refl _ _) (by intro d hd; cases hd; rfl)
      (clear hV hI hC; go_simp <;> (first | rfl | simp))
  case hend =>
    intro f w3 hC hall
    clear HA19 HA23 HA27 HA30 HA34
    simp only [List.forall_mem_cons] at hall
    obtain ⟨h13, h14, h15, h16, h17, h18, h19, h20, h21, h22, h23, h24, h25, h26, h27, h28, h29, h30, h31, h32, h33, h34, h9, _⟩ := hall
    replace h13 : f 13 = .string nm := h13 13 rfl
    replace h14 : f 14 = .string qn := h14 14 rfl
    replace h15 : f 15 = .string fn := h15 15 rfl
    replace h16 : f 16 = .pointer (some ⟨w.heap.size, 3, none⟩) := h16 16 rfl
    replace h17 : f 17 = .int .i64 m := h17 17 rfl
    replace h18 : f 18 = .string om := h18 18 rfl
    replace h19 : f 19 = .string x19 := h19 19 rfl
    replace h20 : f 20 = .pointer (some ⟨w.heap.size, 4, none⟩) := h20 20 rfl
    replace h21 : f 21 = .int .i64 u := h21 21 rfl
    replace h22 : f 22 = .string ou := h22 22 rfl
    replace h23 : f 23 = .string x23 := h23 23 rfl
    replace h24 : f 24 = .pointer (some ⟨w.heap.size, 5, none⟩) := h24 24 rfl
    replace h25 : f 25 = .int .i64 g := h25 25 rfl
    replace h26 : f 26 = .string og := h26 26 rfl
    replace h27 : f 27 = .string x27 := h27 27 rfl
    replace h28 : f 28 = .int .i64 sz := h28 28 rfl
    replace h29 : f 29 = .string os := h29 29 rfl
    replace h30 : f 30 = .string x30 := h30 30 rfl
    replace h31 : f 31 = .pointer (some ⟨w.heap.size, 6, none⟩) := h31 31 rfl
    replace h32 : f 32 = .int .i64 t := h32 32 rfl
    replace h33 : f 33 = .string ot := h33 33 rfl
    replace h34 : f 34 = .string x34 := h34 34 rfl
    replace h9 : f 9 = .string x34 := h9 9 rfl
    simp only [putAll, Act.put, List.setIfInBounds_toArray, List.set_cons_succ, List.set_cons_zero, h13, h14, h15, h16, h17, h18, h19, h20, h21, h22, h23, h24, h25, h26, h27, h28, h29, h30, h31, h32, h33, h34, h9]
    clear h13 h14 h15 h16 h17 h18 h19 h20 h21 h22 h23 h24 h25 h26 h27 h28 h29 h30 h31 h32 h33 h34 h9
    have HXA : Hid (hA = x34) := Lib.hid (by rw [HEA.out, HX34.out, HX30.out, HX27.out, HX23.out, HX19.out])
    have E3 := Lib.hid (E1.out.below hC z0)
    have B3 := Lib.hid (btE B1.out hC)
    replace z0 := Nat.lt_of_lt_of_le z0 hC.size
    clear hC KC E1 B1 HX19 HX23 HX27 HX30 HX34
    go_wp2_with fail
    have KC : Hid (∀ w', Below w3.heap.size w3 w' → w'.cell? ⟨w.heap.size, 1, none⟩ = some (.string p) ∧ w'.cell? ⟨w.heap.size, 2, none⟩ = some (.string l) ∧ w'.cell? ⟨w.heap.size, 3, none⟩ = some (.int .i64 m) ∧ w'.cell? ⟨w.heap.size, 4, none⟩ = some (.int .i64 u) ∧ w'.cell? ⟨w.heap.size, 5, none⟩ = some (.int .i64 g) ∧ w'.cell? ⟨w.heap.size, 6, none⟩ = some (.int .i64 t) ∧ w'.cell? ⟨w.heap.size, 7, none⟩ = some (.string us) ∧ w'.cell? ⟨w.heap.size, 8, none⟩ = some (.string gr)) := Lib.hid (fun w' hb => by obtain ⟨c0, c1, c2, c3, c4, c5, c6, c7, c8, c9⟩ := (E3.out.below hb z0).zero; exact ⟨c1, c2, c3, c4, c5, c6, c7, c8⟩)
    obtain ⟨x40, hx40⟩ : ∃ x : ByteArray, x = fl ++ fll := ⟨_, rfl⟩
    obtain ⟨x41, hx41⟩ : ∃ x : ByteArray, x = x40 ++ ⟨#[117, 115, 116, 97, 114, 32, 32, 0]⟩ := ⟨_, rfl⟩
    obtain ⟨x45, hx45⟩ : ∃ x : ByteArray, x = x41 ++ fu := ⟨_, rfl⟩
    obtain ⟨x49, hx49⟩ : ∃ x : ByteArray, x = x45 ++ fg := ⟨_, rfl⟩
    obtain ⟨x51, hx51⟩ : ∃ x : ByteArray, x = x49 ++ o0 := ⟨_, rfl⟩
    obtain ⟨x53, hx53⟩ : ∃ x : ByteArray, x = x51 ++ o0 := ⟨_, rfl⟩
    obtain ⟨x55, hx55⟩ : ∃ x : ByteArray, x = x53 ++ z12 := ⟨_, rfl⟩
    have zx40 : x40.size ≤ 200100 := by rw [hx40, ByteArray.size_append]; omega
    have zx41 : x41.size ≤ 200108 := by rw [hx41, ByteArray.size_append]; omega
    have zx45 : x45.size ≤ 300140 := by rw [hx45, ByteArray.size_append]; omega
    have zx49 : x49.size ≤ 400172 := by rw [hx49, ByteArray.size_append]; omega
    have zx51 : x51.size ≤ 400193 := by rw [hx51, ByteArray.size_append]; omega
    have zx53 : x53.size ≤ 400214 := by rw [hx53, ByteArray.size_append]; omega
    have zx55 : x55.size ≤ 400381 := by rw [hx55, ByteArray.size_append]; omega
    have HA40 : Hid (∀ w, (Op.stringOp .add fl fll).run Tryd.prog w = .ok (.string x40) w) := Lib.hid (fun w => by rw [hx40]; exact run_string_add_sum w _ _ (by omega))
    have HA41 : Hid (∀ w, (Op.stringOp .add x40 ⟨#[117, 115, 116, 97, 114, 32, 32, 0]⟩).run Tryd.prog w = .ok (.string x41) w) := Lib.hid (fun w => by rw [hx41]; exact run_string_add_sum w _ _ (by omega))
    have HA45 : Hid (∀ w, (Op.stringOp .add x41 fu).run Tryd.prog w = .ok (.string x45) w) := Lib.hid (fun w => by rw [hx45]; exact run_string_add_sum w _ _ (by omega))
    have HA49 : Hid (∀ w, (Op.stringOp .add x45 fg).run Tryd.prog w = .ok (.string x49) w) := Lib.hid (fun w => by rw [hx49]; exact run_string_add_sum w _ _ (by omega))
    have HA51 : Hid (∀ w, (Op.stringOp .add x49 o0).run Tryd.prog w = .ok (.string x51) w) := Lib.hid (fun w => by rw [hx51]; exact run_string_add_sum w _ _ (by omega))
    have HA53 : Hid (∀ w, (Op.stringOp .add x51 o0).run Tryd.prog w = .ok (.string x53) w) := Lib.hid (fun w => by rw [hx53]; exact run_string_add_sum w _ _ (by omega))
    have HA55 : Hid (∀ w, (Op.stringOp .add x53 z12).run Tryd.prog w = .ok (.string x55) w) := Lib.hid (fun w => by rw [hx55]; exact run_string_add_sum w _ _ (by omega))
    have HX40 := Lib.hid hx40
    have HX41 := Lib.hid hx41
    have HX45 := Lib.hid hx45
    have HX49 := Lib.hid hx49
    have HX51 := Lib.hid hx51
    have HX53 := Lib.hid hx53
    have HX55 := Lib.hid hx55
    clear hx40 hx41 hx45 hx49 hx51 hx53 hx55
    refine wp_region_inv (by kernel_rfl) (fun w' => Below w3.heap.size w3 w') (fun x y => Below x.heap.size x y) (fun d v _ => match d with | 35 => v = .string fl | 36 => v = .pointer (some ⟨w.heap.size, 2, none⟩) | 37 => v = .string l | 38 => v = .string ql | 39 => v = .string fll | 40 => v = .string x40 | 41 => v = .string x41 | 42 => v = .pointer (some ⟨w.heap.size, 7, none⟩) | 43 => v = .string us | 44 => v = .string fu | 45 => v = .string x45 | 46 => v = .pointer (some ⟨w.heap.size, 8, none⟩) | 47 => v = .string gr | 48 => v = .string fg | 49 => v = .string x49 | 50 => v = .string o0 | 51 => v = .string x51 | 52 => v = .string o0 | 53 => v = .string x53 | 54 => v = .string z12 | 55 => v = .string x55 | 10 => v = .string x55 | _ => True) (by kernel_rfl) ((Below.refl _ _).drew) (fun _ _ _ _ _ _ h => h) ?hops ?hend
    case hops =>
      simp only [List.forall_mem_cons]
      refine ⟨?o35, ?o36, ?o37, ?o38, ?o39, ?o40, ?o41, ?o42, ?o43, ?o44, ?o45, ?o46, ?o47, ?o48, ?o49, ?o50, ?o51, ?o52, ?o53, ?o54, ?o55, ?o10, fun _ h => by cases h⟩
      case o35 =>
        intro Q a w2 hC hV hI
        have e2 : a.eval (.tmp 2) = .string fl := (hI 2 (by simp [Op.operands]) (by kernel_rfl)).trans rfl
        have f2 : a.tmps.getD 2 undef = .string fl := e2
        have g2 : a.tmps[2]?.getD undef = .string fl := by rw [← Array.getD_eq_getD_getElem?]; exact e2
        refine op_val (.string fl) ?_ hC (Below.refl _ _) (by intro d hd; cases hd; rfl)
        (clear hV hI hC; go_simp <;> (first | rfl | simp))
      case o36 =>
        intro Q a w2 hC hV hI
        have e5 : a.eval (.tmp 5) = .pointer (some ⟨w.heap.size, 0, none⟩) := (hI 5 (by simp [Op.operands]) (by kernel_rfl)).trans rfl
        have f5 : a.tmps.getD 5 undef = .pointer (some ⟨w.heap.size, 0, none⟩) := e5
        have g5 : a.tmps[5]?.getD undef = .pointer (some ⟨w.heap.size, 0, none⟩) := by rw [← Array.getD_eq_getD_getElem?]; exact e5
        refine op_val (.pointer (some ⟨w.heap.size, 2, none⟩)) ?_ hC (Below.refl _ _) (by intro d hd; cases hd; rfl)
        (clear hV hI hC; go_simp <;> (first | rfl | simp))
      case o37 =>
        intro Q a w2 hC hV hI
        have e36 : a.eval (.tmp 36) = .pointer (some ⟨w.heap.size, 2, none⟩) := hV 36 (by simp [Op.operands]) (by kernel_rfl)
        have f36 : a.tmps.getD 36 undef = .pointer (some ⟨w.heap.size, 2, none⟩) := e36
        have g36 : a.tmps[36]?.getD undef = .pointer (some ⟨w.heap.size, 2, none⟩) := by rw [← Array.getD_eq_getD_getElem?]; exact e36
        have hK := KC.out w2 hC
        refine op_val (.string l) ?_ hC (Below.refl _ _) (by intro d hd; cases hd; rfl)
        (clear hV hI hC; go_simp <;> (first | rfl | simp))
      case o38 =>
        intro Q a w2 hC hV hI
        have e37 : a.eval (.tmp 37) = .string l := hV 37 (by simp [Op.operands, Call.operands]) (by kernel_rfl)
        have f37 : a.tmps.getD 37 undef = .string l := e37
        have g37 : a.tmps[37]?.getD undef = .string l := by rw [← Array.getD_eq_getD_getElem?]; exact e37
        refine op_call (f := 43) (args := #[.string l, .int .i64 100]) (R := fun v y => v = .string ql ∧ w2 = y) ?_ ((HQl.out w2).mono ?_) ?_
        · (clear hV hI hC; go_simp <;> (first | rfl | simp))
        · rintro e y ⟨rfl, rfl⟩; exact ⟨_, rfl, rfl, rfl⟩
        · rintro v y ⟨rfl, rfl⟩; exact ⟨hC, Below.refl _ _, by intro d hd; cases hd; rfl⟩
      case o39 =>
        intro Q a w2 hC hV hI
        have e38 : a.eval (.tmp 38) = .string ql := hV 38 (by simp [Op.operands, Call.operands]) (by kernel_rfl)
        have f38 : a.tmps.getD 38 undef = .string ql := e38
        have g38 : a.tmps[38]?.getD undef = .string ql := by rw [← Array.getD_eq_getD_getElem?]; exact e38
        refine op_call (f := 29) (args := #[.string ql, .int .i64 100]) (R := fun v y => v = .string fll ∧ Below w2.heap.size w2 y) ?_ ((HLk.out w2).mono ?_) ?_
        · (clear hV hI hC; go_simp <;> (first | rfl | simp))
        · rintro e y ⟨rfl, hb⟩; exact ⟨_, rfl, rfl, hb⟩
        · rintro v y ⟨rfl, hb⟩; exact ⟨hC.trans (hb.mono hC.size), hb, by intro d hd; cases hd; rfl⟩
      case o40 =>
        intro Q a w2 hC hV hI
        have e35 : a.eval (.tmp 35) = .string fl := hV 35 (by simp [Op.operands]) (by kernel_rfl)
        have f35 : a.tmps.getD 35 undef = .string fl := e35
        have g35 : a.tmps[35]?.getD undef = .string fl := by rw [← Array.getD_eq_getD_getElem?]; exact e35
        have e39 : a.eval (.tmp 39) = .string fll := hV 39 (by simp [Op.operands]) (by kernel_rfl)
        have f39 : a.tmps.getD 39 undef = .string fll := e39
        have g39 : a.tmps[39]?.getD undef = .string fll := by rw [← Array.getD_eq_getD_getElem?]; exact e39
        refine op_val (.string x40) ?_ hC (Below.refl _ _) (by intro d hd; cases hd; rfl)
        have q := HA40.out w2
        (clear hV hI hC; go_simp <;> (first | rfl | simp))
      case o41 =>
        intro Q a w2 hC hV hI
        have e40 : a.eval (.tmp 40) = .string x40 := hV 40 (by simp [Op.operands]) (by kernel_rfl)
        have f40 : a.tmps.getD 40 undef = .string x40 := e40
        have g40 : a.tmps[40]?.getD undef = .string x40 := by rw [← Array.getD_eq_getD_getElem?]; exact e40
        refine op_val (.string x41) ?_ hC (Below.refl _ _) (by intro d hd; cases hd; rfl)
        have q := HA41.out w2
        (clear hV hI hC; go_simp <;> (first | rfl | simp))
      case o42 =>
        intro Q a w2 hC hV hI
        have e5 : a.eval (.tmp 5) = .pointer (some ⟨w.heap.size, 0, none⟩) := (hI 5 (by simp [Op.operands]) (by kernel_rfl)).trans rfl
        have f5 : a.tmps.getD 5 undef = .pointer (some ⟨w.heap.size, 0, none⟩) := e5
        have g5 : a.tmps[5]?.getD undef = .pointer (some ⟨w.heap.size, 0, none⟩) := by rw [← Array.getD_eq_getD_getElem?]; exact e5
        refine op_val (.pointer (some ⟨w.heap.size, 7, none⟩)) ?_ hC (Below.refl _ _) (by intro d hd; cases hd; rfl)
        (clear hV hI hC; go_simp <;> (first | rfl | simp))
      case o43 =>
        intro Q a w2 hC hV hI
        have e42 : a.eval (.tmp 42) = .pointer (some ⟨w.heap.size, 7, none⟩) := hV 42 (by simp [Op.operands]) (by kernel_rfl)
        have f42 : a.tmps.getD 42 undef = .pointer (some ⟨w.heap.size, 7, none⟩) := e42
        have g42 : a.tmps[42]?.getD undef = .pointer (some ⟨w.heap.size, 7, none⟩) := by rw [← Array.getD_eq_getD_getElem?]; exact e42
        have hK := KC.out w2 hC
        refine op_val (.string us) ?_ hC (Below.refl _ _) (by intro d hd; cases hd; rfl)
        (clear hV hI hC; go_simp <;> (first | rfl | simp))
      case o44 =>
        intro Q a w2 hC hV hI
        have e43 : a.eval (.tmp 43) = .string us := hV 43 (by simp [Op.operands, Call.operands]) (by kernel_rfl)
        have f43 : a.tmps.getD 43 undef = .string us := e43
        have g43 : a.tmps[43]?.getD undef = .string us := by rw [← Array.getD_eq_getD_getElem?]; exact e43
        refine op_call (f := 29) (args := #[.string us, .int .i64 32]) (R := fun v y => v = .string fu ∧ Below w2.heap.size w2 y) ?_ ((HU.out w2).mono ?_) ?_
        · (clear hV hI hC; go_simp <;> (first | rfl | simp))
        · rintro e y ⟨rfl, hb⟩; exact ⟨_, rfl, rfl, hb⟩
        · rintro v y ⟨rfl, hb⟩; exact ⟨hC.trans (hb.mono hC.size), hb, by intro d hd; cases hd; rfl⟩
      case o45 =>
        intro Q a w2 hC hV hI
        have e41 : a.eval (.tmp 41) = .string x41 := hV 41 (by simp [Op.operands]) (by kernel_rfl)
        have f41 : a.tmps.getD 41 undef = .string x41 := e41
        have g41 : a.tmps[41]?.getD undef = .string x41 := by rw [← Array.getD_eq_getD_getElem?]; exact e41
        have e44 : a.eval (.tmp 44) = .string fu := hV 44 (by simp [Op.operands]) (by kernel_rfl)
        have f44 : a.tmps.getD 44 undef = .string fu := e44
        have g44 : a.tmps[44]?.getD undef = .string fu := by rw [← Array.getD_eq_getD_getElem?]; exact e44
        refine op_val (.string x45) ?_ hC (Below.refl _ _) (by intro d hd; cases hd; rfl)
        have q := HA45.out w2
        (clear hV hI hC; go_simp <;> (first | rfl | simp))
      case o46 =>
        intro Q a w2 hC hV hI
        have e5 : a.eval (.tmp 5) = .pointer (some ⟨w.heap.size, 0, none⟩) := (hI 5 (by simp [Op.operands]) (by kernel_rfl)).trans rfl
        have f5 : a.tmps.getD 5 undef = .pointer (some ⟨w.heap.size, 0, none⟩) := e5
        have g5 : a.tmps[5]?.getD undef = .pointer (some ⟨w.heap.size, 0, none⟩) := by rw [← Array.getD_eq_getD_getElem?]; exact e5
        refine op_val (.pointer (some ⟨w.heap.size, 8, none⟩)) ?_ hC (Below.refl _ _) (by intro d hd; cases hd; rfl)
        (clear hV hI hC; go_simp <;> (first | rfl | simp))
      case o47 =>
        intro Q a w2 hC hV hI
        have e46 : a.eval (.tmp 46) = .pointer (some ⟨w.heap.size, 8, none⟩) := hV 46 (by simp [Op.operands]) (by kernel_rfl)
        have f46 : a.tmps.getD 46 undef = .pointer (some ⟨w.heap.size, 8, none⟩) := e46
        have g46 : a.tmps[46]?.getD undef = .pointer (some ⟨w.heap.size, 8, none⟩) := by rw [← Array.getD_eq_getD_getElem?]; exact e46
        have hK := KC.out w2 hC
        refine op_val (.string gr) ?_ hC (Below.refl _ _) (by intro d hd; cases hd; rfl)
        (clear hV hI hC; go_simp <;> (first | rfl | simp))
      case o48 =>
        intro Q a w2 hC hV hI
        have e47 : a.eval (.tmp 47) = .string gr := hV 47 (by simp [Op.operands, Call.operands]) (by kernel_rfl)
        have f47 : a.tmps.getD 47 undef = .string gr := e47
        have g47 : a.tmps[47]?.getD undef = .string gr := by rw [← Array.getD_eq_getD_getElem?]; exact e47
        refine op_call (f := 29) (args := #[.string gr, .int .i64 32]) (R := fun v y => v = .string fg ∧ Below w2.heap.size w2 y) ?_ ((HG.out w2).mono ?_) ?_
        · (clear hV hI hC; go_simp <;> (first | rfl | simp))
        · rintro e y ⟨rfl, hb⟩; exact ⟨_, rfl, rfl, hb⟩
        · rintro v y ⟨rfl, hb⟩; exact ⟨hC.trans (hb.mono hC.size), hb, by intro d hd; cases hd; rfl⟩
      case o49 =>
        intro Q a w2 hC hV hI
        have e45 : a.eval (.tmp 45) = .string x45 := hV 45 (by simp [Op.operands]) (by kernel_rfl)
        have f45 : a.tmps.getD 45 undef = .string x45 := e45
        have g45 : a.tmps[45]?.getD undef = .string x45 := by rw [← Array.getD_eq_getD_getElem?]; exact e45
        have e48 : a.eval (.tmp 48) = .string fg := hV 48 (by simp [Op.operands]) (by kernel_rfl)
        have f48 : a.tmps.getD 48 undef = .string fg := e48
        have g48 : a.tmps[48]?.getD undef = .string fg := by rw [← Array.getD_eq_getD_getElem?]; exact e48
        refine op_val (.string x49) ?_ hC (Below.refl _ _) (by intro d hd; cases hd; rfl)
        have q := HA49.out w2
        (clear hV hI hC; go_simp <;> (first | rfl | simp))
      case o50 =>
        intro Q a w2 hC hV hI
        refine op_call (f := 30) (args := #[.int .i64 0, .int .i64 8]) (R := fun v y => v = .string o0 ∧ w2 = y) ?_ ((HO0.out w2).mono ?_) ?_
        · (clear hV hI hC; go_simp <;> (first | rfl | simp))
        · rintro e y ⟨rfl, rfl⟩; exact ⟨_, rfl, rfl, rfl⟩
        · rintro v y ⟨rfl, rfl⟩; exact ⟨hC, Below.refl _ _, by intro d hd; cases hd; rfl⟩
      case o51 =>
        intro Q a w2 hC hV hI
        have e49 : a.eval (.tmp 49) = .string x49 := hV 49 (by simp [Op.operands]) (by kernel_rfl)
        have f49 : a.tmps.getD 49 undef = .string x49 := e49
        have g49 : a.tmps[49]?.getD undef = .string x49 := by rw [← Array.getD_eq_getD_getElem?]; exact e49
        have e50 : a.eval (.tmp 50) = .string o0 := hV 50 (by simp [Op.operands]) (by kernel_rfl)
        have f50 : a.tmps.getD 50 undef = .string o0 := e50
        have g50 : a.tmps[50]?.getD undef = .string o0 := by rw [← Array.getD_eq_getD_getElem?]; exact e50
        refine op_val (.string x51) ?_ hC (Below.refl _ _) (by intro d hd; cases hd; rfl)
        have q := HA51.out w2
        (clear hV hI hC; go_simp <;> (first | rfl | simp))
      case o52 =>
        intro Q a w2 hC hV hI
        refine op_call (f := 30) (args := #[.int .i64 0, .int .i64 8]) (R := fun v y => v = .string o0 ∧ w2 = y) ?_ ((HO0.out w2).mono ?_) ?_
        · (clear hV hI hC; go_simp <;> (first | rfl | simp))
        · rintro e y ⟨rfl, rfl⟩; exact ⟨_, rfl, rfl, rfl⟩
        · rintro v y ⟨rfl, rfl⟩; exact ⟨hC, Below.refl _ _, by intro d hd; cases hd; rfl⟩
      case o53 =>
        intro Q a w2 hC hV hI
        have e51 : a.eval (.tmp 51) = .string x51 := hV 51 (by simp [Op.operands]) (by kernel_rfl)
        have f51 : a.tmps.getD 51 undef = .string x51 := e51
        have g51 : a.tmps[51]?.getD undef = .string x51 := by rw [← Array.getD_eq_getD_getElem?]; exact e51
        have e52 : a.eval (.tmp 52) = .string o0 := hV 52 (by simp [Op.operands]) (by kernel_rfl)
        have f52 : a.tmps.getD 52 undef = .string o0 := e52
        have g52 : a.tmps[52]?.getD undef = .string o0 := by rw [← Array.getD_eq_getD_getElem?]; exact e52
        refine op_val (.string x53) ?_ hC (Below.refl _ _) (by intro d hd; cases hd; rfl)
        have q := HA53.out w2
        (clear hV hI hC; go_simp <;> (first | rfl | simp))
      case o54 =>
        intro Q a w2 hC hV hI
        refine op_call (f := 31) (args := #[.int .i64 167]) (R := fun v y => v = .string z12 ∧ Below w2.heap.size w2 y) ?_ ((HZ.out w2).mono ?_) ?_
        · (clear hV hI hC; go_simp <;> (first | rfl | simp))
        · rintro e y ⟨rfl, hb⟩; exact ⟨_, rfl, rfl, hb⟩
        · rintro v y ⟨rfl, hb⟩; exact ⟨hC.trans (hb.mono hC.size), hb, by intro d hd; cases hd; rfl⟩
      case o55 =>
        intro Q a w2 hC hV hI
        have e53 : a.eval (.tmp 53) = .string x53 := hV 53 (by simp [Op.operands]) (by kernel_rfl)
        have f53 : a.tmps.getD 53 undef = .string x53 := e53
        have g53 : a.tmps[53]?.getD undef = .string x53 := by rw [← Array.getD_eq_getD_getElem?]; exact e53
        have e54 : a.eval (.tmp 54) = .string z12 := hV 54 (by simp [Op.operands]) (by kernel_rfl)
        have f54 : a.tmps.getD 54 undef = .string z12 := e54
        have g54 : a.tmps[54]?.getD undef = .string z12 := by rw [← Array.getD_eq_getD_getElem?]; exact e54
        refine op_val (.string x55) ?_ hC (Below.refl _ _) (by intro d hd; cases hd; rfl)
        have q := HA55.out w2
        (clear hV hI hC; go_simp <;> (first | rfl | simp))
      case o10 =>
        intro Q a w2 hC hV hI
        have e55 : a.eval (.tmp 55) = .string x55 := hV 55 (by simp [Op.operands]) (by kernel_rfl)
        have f55 : a.tmps.getD 55 undef = .string x55 := e55
        have g55 : a.tmps[55]?.getD undef = .string x55 := by rw [← Array.getD_eq_getD_getElem?]; exact e55
        refine op_val (.string x55) ?_ hC (Below.refl _ _) (by intro d hd; cases hd; rfl)
        (clear hV hI hC; go_simp <;> (first | rfl | simp))
    case hend =>
      intro f w4 hC hall
      clear HA40 HA41 HA45 HA49 HA51 HA53 HA55
      simp only [List.forall_mem_cons] at hall
      obtain ⟨h35, h36, h37, h38, h39, h40, h41, h42, h43, h44, h45, h46, h47, h48, h49, h50, h51, h52, h53, h54, h55, h10, _⟩ := hall
      replace h35 : f 35 = .string fl := h35 35 rfl
      replace h36 : f 36 = .pointer (some ⟨w.heap.size, 2, none⟩) := h36 36 rfl
      replace h37 : f 37 = .string l := h37 37 rfl
      replace h38 : f 38 = .string ql := h38 38 rfl
      replace h39 : f 39 = .string fll := h39 39 rfl
      replace h40 : f 40 = .string x40 := h40 40 rfl
      replace h41 : f 41 = .string x41 := h41 41 rfl
      replace h42 : f 42 = .pointer (some ⟨w.heap.size, 7, none⟩) := h42 42 rfl
      replace h43 : f 43 = .string us := h43 43 rfl
      replace h44 : f 44 = .string fu := h44 44 rfl
      replace h45 : f 45 = .string x45 := h45 45 rfl
      replace h46 : f 46 = .pointer (some ⟨w.heap.size, 8, none⟩) := h46 46 rfl
      replace h47 : f 47 = .string gr := h47 47 rfl
      replace h48 : f 48 = .string fg := h48 48 rfl
      replace h49 : f 49 = .string x49 := h49 49 rfl
      replace h50 : f 50 = .string o0 := h50 50 rfl
      replace h51 : f 51 = .string x51 := h51 51 rfl
      replace h52 : f 52 = .string o0 := h52 52 rfl
      replace h53 : f 53 = .string x53 := h53 53 rfl
      replace h54 : f 54 = .string z12 := h54 54 rfl
      replace h55 : f 55 = .string x55 := h55 55 rfl
      replace h10 : f 10 = .string x55 := h10 10 rfl
      simp only [putAll, Act.put, List.setIfInBounds_toArray, List.set_cons_succ, List.set_cons_zero, h35, h36, h37, h38, h39, h40, h41, h42, h43, h44, h45, h46, h47, h48, h49, h50, h51, h52, h53, h54, h55, h10]
      clear h35 h36 h37 h38 h39 h40 h41 h42 h43 h44 h45 h46 h47 h48 h49 h50 h51 h52 h53 h54 h55 h10
      have HXB : Hid (hB = x55) := Lib.hid (by rw [HEB.out, HX55.out, HX53.out, HX51.out, HX49.out, HX45.out, HX41.out, HX40.out])
      have B4 := Lib.hid (btE B3.out hC)
      clear hC KC E3 B3 HX40 HX41 HX45 HX49 HX51 HX53 HX55
      rw [HXA.out, HXB.out] at HE
      clear HXA HXB HEA HEB HN HLk HU HG HZ HOm HOu HOg HOs HOt HO0 HQn HQl
      have S1 := Lib.hid (fun w => sum_spec x34 w (by omega))
      have S2 := Lib.hid (fun w => sum_spec x55 w (by omega))
      have b1 := sumv_bd x34.data.toList
      have b2 := sumv_bd x55.data.toList
      have l1 : x34.data.toList.length ≤ 100205 := by simp; omega
      have l2 : x55.data.toList.length ≤ 400381 := by simp; omega
      have S3 := Lib.hid (fun w => putOct_spec (sumv x34.data.toList + 256 + sumv x55.data.toList) 6 w)
      have zo := putOct_size (sumv x34.data.toList + 256 + sumv x55.data.toList) 6
      generalize putOctv (sumv x34.data.toList + 256 + sumv x55.data.toList) 6 = pr at HE S3 zo
      obtain ⟨od, ob⟩ := pr
      simp only at HE S3 zo
      generalize sumv x34.data.toList = s1 at *
      generalize sumv x55.data.toList = s2 at *
      go_wp2_with fail
      refine (S1.out _).mono ?_
      rintro e w5 ⟨rfl, rfl⟩
      go_wp2_with fail
      refine (S2.out _).mono ?_
      rintro e w5 ⟨rfl, rfl⟩
      go_wp2_with fail
      refine (S3.out _).mono ?_
      rintro e w5 ⟨rfl, rfl⟩
      have zc : (x34 ++ od).size ≤ 100225 := by rw [ByteArray.size_append]; omega
      have zc2 : (x34 ++ od ++ (⟨#[0, 32]⟩ : ByteArray)).size ≤ 100227 := by rw [ByteArray.size_append]; have : (⟨#[0, 32]⟩ : ByteArray).size = 2 := rfl; omega
      go_wp2
      go_ret
      exact ⟨ret_str HE.out.symm, B4.out⟩
end Go.Proofs.YtgpgkgahbkmdiaaDoor

/- Contracts of impl.startOfName, impl.longHeadText and impl.PutLong. -/
namespace Go.Proofs.YtgpgkgahbkmdiaaDoor
open Go.ChangeShapes Go.WideShapes Go.ChangeAt Go.RowKit Go.Deep

theorem startOf_any (s : ByteArray) (w : World) (hs : s.size ≤ 4194304) :
    Calls Tryd.prog 49 #[.string s] w fun e w' => e = .returned (.string (firstv s)) ∧ w = w' := by
  by_cases h : (s.size : Int) ≤ 100
  · have HE : Hid (firstv s = s.extract 0 (min (s.size : Int) 100).toNat) := Lib.hid (by rw [first_same (by omega), show (min (s.size : Int) 100).toNat = s.size from by omega]; simp)
    generalize firstv s = r at HE
    go_enter Tryd.func49, Tryd.ntmps49
    go_wp2
    go_ret
    exact ⟨ret_str HE.out.symm, rfl⟩
  · have HE : Hid (firstv s = s.extract 0 (min (s.size : Int) 100).toNat) := Lib.hid (by rw [firstv, if_neg (by omega), show (min (s.size : Int) 100).toNat = 100 from by omega])
    generalize firstv s = r at HE
    go_enter Tryd.func49, Tryd.ntmps49
    go_wp2
    go_ret
    exact ⟨ret_str HE.out.symm, rfl⟩
set_option maxHeartbeats 3200000 in
set_option maxRecDepth 8000 in
theorem longHead_impl (k : Int) (p l : ByteArray) (m u g t : Int) (us gr b fl : ByteArray) (sz : Int) (w : World) (hp : p.size ≤ 4194304) (hl : l.size ≤ 4194304) (zus : us.size ≤ 32) (zgr : gr.size ≤ 32) (zfl : fl.size = 1) (nm : 0 ≤ m ∧ m ≤ 9007199254740991) (nu : 0 ≤ u ∧ u ≤ 9007199254740991) (ng : 0 ≤ g ∧ g ≤ 9007199254740991) (nt : 0 ≤ t ∧ t ≤ 9007199254740991) (ns : 0 ≤ sz ∧ sz ≤ 9007199254740991) (hT : Tabs w) (hF : FW w) :
    Calls Tryd.prog 25 #[.agg #[.int .i64 k, .string p, .string l, .int .i64 m, .int .i64 u, .int .i64 g, .int .i64 t, .string us, .string gr, .string b, .string fl, .int .i64 sz]] w fun e w' => e = .returned (.string (lhdv ⟨k, p, l, m, u, g, t, us, gr, b⟩ p fl sz)) ∧ Below w.heap.size w w' := by
  have H1 := Lib.hid (fun w => startOf_any p w hp)
  have H2 := Lib.hid (fun w => startOf_any l w hl)
  have H4 := Lib.hid (fun w hT hF => headText_impl k (firstv p) (firstv l) m u g t us gr b fl sz ⟨#[]⟩ magicG w (first_size p) (first_size l) zus zgr zfl (by decide) (by decide) nm nu ng nt ns hT hF)
  have hv : hdv ⟨k, firstv p, firstv l, m, u, g, t, us, gr, b⟩ (firstv p) ⟨#[]⟩ fl sz magicG = lhdv ⟨k, p, l, m, u, g, t, us, gr, b⟩ p fl sz := rfl
  rw [hv, show magicG = ⟨#[117, 115, 116, 97, 114, 32, 32, 0]⟩ from rfl] at H4
  generalize lhdv ⟨k, p, l, m, u, g, t, us, gr, b⟩ p fl sz = r at *
  generalize firstv p = fp at *
  generalize firstv l = fl' at *
  have HF := Lib.hid hF
  have HT := Lib.hid hT
  clear hv hF hT hp hl zus zgr zfl nm nu ng nt ns
  have E0 := Lib.hid (HdO.new w ⟨k, p, l, m, u, g, t, us, gr, b⟩ fl sz)
  have B0 := Lib.hid ((Below.refl w.heap.size w).alloc (Nat.le_refl _) (.cells (hdCells ⟨k, p, l, m, u, g, t, us, gr, b⟩ fl sz).toArray 39))
  simp only [hdCells] at E0 B0
  go_enter Tryd.func25, Tryd.ntmps25
  go_wp2_with fail
  generalize w.alloc (.cells #[.int .i64 k, .string p, .string l, .int .i64 m, .int .i64 u, .int .i64 g, .int .i64 t, .string us, .string gr, .string b, .string fl, .int .i64 sz] 39) = w1 at *
  refine (H1.out _).mono ?_
  rintro e w2 ⟨rfl, rfl⟩
  have hfz := E0.out.fz 1
  obtain ⟨_, c1, c2, _⟩ := E0.out.at.zero
  have E1 := Lib.hid (E0.out.set (e' := ⟨k, fp, l, m, u, g, t, us, gr, b⟩) (fl' := fl) (sz' := sz) 1 (.string fp) rfl)
  have B1 := Lib.hid (B0.out.setCell (p := ⟨w.heap.size, 1, none⟩) (Nat.le_refl _) (.string fp))
  go_wp2_with fail
  generalize w1.setCell ⟨w.heap.size, 1, none⟩ (.string fp) = w2 at *
  clear c1 c2 hfz
  have hfz := E1.out.fz 2
  obtain ⟨_, c1, c2, _⟩ := E1.out.at.zero
  obtain ⟨c10, c11⟩ := E1.out.two
  refine (H2.out _).mono ?_
  rintro e w3 ⟨rfl, rfl⟩
  have E2 := Lib.hid (E1.out.set (e' := ⟨k, fp, fl', m, u, g, t, us, gr, b⟩) (fl' := fl) (sz' := sz) 2 (.string fl') rfl)
  have B2 := Lib.hid (B1.out.setCell (p := ⟨w.heap.size, 2, none⟩) (Nat.le_refl _) (.string fl'))
  go_wp2_with fail
  refine (H4.out _ (HT.out.below B2.out) (HF.out.below B2.out)).mono ?_
  rintro e w4 ⟨rfl, hb⟩
  go_wp2
  go_ret
  exact ⟨rfl, btE B2.out hb⟩
set_option maxHeartbeats 3200000 in
set_option maxRecDepth 8000 in
theorem putLong_impl (k : Int) (p l : ByteArray) (m u g t : Int) (us gr b fl : ByteArray) (sz : Int) (w : World) (hp : p.size ≤ 4194304) (hl : l.size ≤ 4194304) (hus : us.size ≤ 4194304) (hgr : gr.size ≤ 4194304) (hT : Tabs w) (hF : FW w) :
    Calls Tryd.prog 11 #[.agg #[.int .i64 k, .string p, .string l, .int .i64 m, .int .i64 u, .int .i64 g, .int .i64 t, .string us, .string gr, .string b], .string fl, .int .i64 sz] w fun e w' => e = .returned (.string (putLongv ⟨k, p, l, m, u, g, t, us, gr, b⟩ fl sz)) ∧ Below w.heap.size w w' := by
  have H1 := Lib.hid (fun w => entryOk_impl k p l m u g t us gr b w hp hl hus hgr)
  have H2 := Lib.hid (fun w => headOkI_any fl sz w)
  by_cases hy : entOkv ⟨k, p, l, m, u, g, t, us, gr, b⟩ = true ∧ fl.size = 1 ∧ (0 ≤ sz ∧ sz ≤ 3000)
  · have HE : Hid (putLongv ⟨k, p, l, m, u, g, t, us, gr, b⟩ fl sz = lhdv ⟨k, p, l, m, u, g, t, us, gr, b⟩ p fl sz) := Lib.hid (by rw [putLongv, if_pos hy])
    obtain ⟨n1, n2, n3, n4, n5, n6⟩ := entOk_nums hy.1
    simp only at n1 n2 n3 n4 n5 n6
    rw [hy.1] at H1
    rw [hok_iff.2 hy.2] at H2
    have H4 := Lib.hid (fun w hT hF => longHead_impl k p l m u g t us gr b fl sz w hp hl n5 n6 hy.2.1 (by omega) (by omega) (by omega) (by omega) (by have := hy.2.2; omega) hT hF)
    rw [← HE.out] at H4
    generalize putLongv ⟨k, p, l, m, u, g, t, us, gr, b⟩ fl sz = r at *
    have HF := Lib.hid hF
    have HT := Lib.hid hT
    clear HE hy hp hl hus hgr n1 n2 n3 n4 n5 n6 hF hT
    go_enter Tryd.func11, Tryd.ntmps11
    go_wp2_with fail
    refine (H1.out _).mono ?_
    rintro e w1 ⟨rfl, hb⟩
    obtain ⟨k1, bb1, z1⟩ := one_new (e1 := ⟨k, p, l, m, u, g, t, us, gr, b⟩) hb
    have E1 := Lib.hid k1
    have B1 := Lib.hid bb1
    clear hb k1 bb1 H1
    go_wp2_with fail
    refine (H2.out _).mono ?_
    rintro e w2 ⟨rfl, rfl⟩
    obtain ⟨c0, c1, c2, c3, c4, c5, c6, c7, c8, c9⟩ := E1.out.zero
    go_wp2_with fail
    refine (H4.out _ (HT.out.below B1.out) (HF.out.below B1.out)).mono ?_
    rintro e w3 ⟨rfl, hb⟩
    go_wp2
    go_ret
    exact ⟨rfl, btE B1.out hb⟩
  · have HE := Lib.hid (putLong_no hy)
    have hh : entOkv ⟨k, p, l, m, u, g, t, us, gr, b⟩ = true → hokv fl sz = false := fun h => by
      cases hq : hokv fl sz with
      | false => rfl
      | true => exact absurd ⟨h, hok_iff.1 hq⟩ hy
    generalize putLongv ⟨k, p, l, m, u, g, t, us, gr, b⟩ fl sz = r at HE
    generalize entOkv ⟨k, p, l, m, u, g, t, us, gr, b⟩ = bf at H1 hy hh
    clear hT hF hp hl hus hgr hy
    cases bf with
    | false =>
      clear hh
      go_enter Tryd.func11, Tryd.ntmps11
      go_wp2_with fail
      refine (H1.out _).mono ?_
      rintro e w1 ⟨rfl, hb⟩
      obtain ⟨-, bb1, -⟩ := one_new (e1 := ⟨k, p, l, m, u, g, t, us, gr, b⟩) hb
      have B1 := Lib.hid bb1
      clear hb bb1
      go_wp2
      go_ret
      exact ⟨ret_str HE.out.symm, B1.out⟩
    | true =>
      rw [hh rfl] at H2
      clear hh
      go_enter Tryd.func11, Tryd.ntmps11
      go_wp2_with fail
      refine (H1.out _).mono ?_
      rintro e w1 ⟨rfl, hb⟩
      obtain ⟨-, bb1, -⟩ := one_new (e1 := ⟨k, p, l, m, u, g, t, us, gr, b⟩) hb
      have B1 := Lib.hid bb1
      clear hb bb1
      go_wp2_with fail
      refine (H2.out _).mono ?_
      rintro e w2 ⟨rfl, rfl⟩
      go_wp2
      go_ret
      exact ⟨ret_str HE.out.symm, B1.out⟩
end Go.Proofs.YtgpgkgahbkmdiaaDoor

/- Contracts of spec.LongName and impl.LongName. -/
namespace Go.Proofs.YtgpgkgahbkmdiaaDoor
open Go.ChangeShapes Go.WideShapes Go.ChangeAt Go.RowKit Go.Deep

theorem kind_ne {a b : ByteArray} (h : a ≠ b) : (a.toList == b.toList) = false := by
  rw [beq_eq_false_iff_ne, ba_toList, ba_toList]
  exact fun e => h (ba_ext e)
theorem kind_eq {a b : ByteArray} (h : a = b) : (a.toList == b.toList) = true := by rw [h]; exact beq_self_eq_true _
theorem lp_size : longPath.size ≤ 4194304 := by have : longPath.size = 13 := rfl; omega
theorem em_size : (⟨#[]⟩ : ByteArray).size ≤ 4194304 := Nat.zero_le _
theorem flagL_list : flagL.toList = [76] := by rw [ba_toList]; rfl
theorem flagK_list : flagK.toList = [75] := by rw [ba_toList]; rfl
theorem kinds_of {kd : ByteArray} (h0 : kd = flagL ∨ kd = flagK) : (kd.toList == [76]) = true ∨ ((kd.toList == [76]) = false ∧ (kd.toList == [75]) = true) := by
  rw [← flagL_list, ← flagK_list]
  rcases h0 with rfl | rfl
  · exact .inl (kind_eq rfl)
  · exact .inr ⟨kind_ne (by decide), kind_eq rfl⟩
theorem kinds_not {kd : ByteArray} (h0 : ¬ (kd = flagL ∨ kd = flagK)) : (kd.toList == [76]) = false ∧ (kd.toList == [75]) = false := by
  rw [← flagL_list, ← flagK_list]
  exact ⟨kind_ne (fun e => h0 (.inl e)), kind_ne (fun e => h0 (.inr e))⟩
theorem long_head2 (kd : ByteArray) (x : Int) : lhdv ⟨0, longPath, ⟨#[]⟩, 0, 0, 0, 0, ⟨#[]⟩, ⟨#[]⟩, ⟨#[]⟩⟩ longPath kd x = lhdv zE longPath kd x := by
  unfold lhdv hdv hdA headB zE
  rfl
set_option maxHeartbeats 1600000 in
set_option maxRecDepth 8000 in
theorem longName_spec (kd s : ByteArray) (w : World) (hs : s.size ≤ 4194304) :
    Calls Tryd.prog 12 #[.string kd, .string s] w fun e w' => e = .returned (.string (longv kd s)) ∧ Below w.heap.size w w' := by
  by_cases h0 : kd = flagL ∨ kd = flagK
  · by_cases h1 : (s.size : Int) ≤ 250
    · have hz1 := long_head (kind := kd) (text := s) h0 (by omega)
      have hz2 := body_size (s ++ ⟨#[0]⟩)
      have hz3 : (s ++ (⟨#[0]⟩ : ByteArray)).size = s.size + 1 := by rw [ByteArray.size_append]; rfl
      have HE : Hid (longv kd s = lhdv zE longPath kd ((s.size : Int) + 1) ++ bodyP (s ++ ⟨#[0]⟩)) := Lib.hid (by rw [longv, if_pos ⟨h0, by omega⟩])
      have H1 := Lib.hid (fun w => l06Head_spec 0 ⟨#[]⟩ ⟨#[]⟩ 0 0 0 0 ⟨#[]⟩ ⟨#[]⟩ ⟨#[]⟩ longPath kd ((s.size : Int) + 1) w (by decide) (by decide) (by decide) (by decide) (by rw [long_kind h0]; omega) (by decide) (by decide) (by decide) (by decide) (by omega))
      rw [show (⟨0, ⟨#[]⟩, ⟨#[]⟩, 0, 0, 0, 0, ⟨#[]⟩, ⟨#[]⟩, ⟨#[]⟩⟩ : Ent) = zE from rfl, show longPath = ⟨#[46, 47, 46, 47, 64, 76, 111, 110, 103, 76, 105, 110, 107]⟩ from rfl] at H1
      rw [show longPath = ⟨#[46, 47, 46, 47, 64, 76, 111, 110, 103, 76, 105, 110, 107]⟩ from rfl] at HE hz1
      have H2 := Lib.hid (fun w => l04Body_spec (s ++ ⟨#[0]⟩) w (by omega))
      generalize longv kd s = r at HE
      generalize lhdv zE ⟨#[46, 47, 46, 47, 64, 76, 111, 110, 103, 76, 105, 110, 107]⟩ kd ((s.size : Int) + 1) = hd at *
      generalize bodyP (s ++ ⟨#[0]⟩) = bd at *
      have hk := kinds_of h0
      clear h0
      rcases hk with hk | ⟨hk, hk2⟩
      · go_enter Tryd.func12, Tryd.ntmps12
        go_wp2_with fail
        refine (H1.out _).mono ?_
        rintro e w1 ⟨rfl, hb1⟩
        have B1 := Lib.hid hb1
        clear hb1
        go_wp2_with fail
        refine (H2.out _).mono ?_
        rintro e w2 ⟨rfl, hb2⟩
        go_wp2
        go_ret
        exact ⟨ret_str HE.out.symm, btE B1.out hb2⟩
      · go_enter Tryd.func12, Tryd.ntmps12
        go_wp2_with fail
        refine (H1.out _).mono ?_
        rintro e w1 ⟨rfl, hb1⟩
        have B1 := Lib.hid hb1
        clear hb1
        go_wp2_with fail
        refine (H2.out _).mono ?_
        rintro e w2 ⟨rfl, hb2⟩
        go_wp2
        go_ret
        exact ⟨ret_str HE.out.symm, btE B1.out hb2⟩
    · have HE := Lib.hid (long_no (kind := kd) (text := s) (fun h => h1 (by have := h.2; omega)))
      generalize longv kd s = r at HE
      have hk := kinds_of h0
      clear h0
      rcases hk with hk | ⟨hk, hk2⟩
      · go_enter Tryd.func12, Tryd.ntmps12
        go_wp2
        go_ret
        exact ⟨ret_str HE.out.symm, Below.refl _ _⟩
      · go_enter Tryd.func12, Tryd.ntmps12
        go_wp2
        go_ret
        exact ⟨ret_str HE.out.symm, Below.refl _ _⟩
  · have HE := Lib.hid (long_no (kind := kd) (text := s) (fun h => h0 h.1))
    obtain ⟨k1, k2⟩ := kinds_not h0
    generalize longv kd s = r at HE
    clear h0
    go_enter Tryd.func12, Tryd.ntmps12
    go_wp2
    go_ret
    exact ⟨ret_str HE.out.symm, Below.refl _ _⟩
set_option maxHeartbeats 1600000 in
set_option maxRecDepth 8000 in
theorem longName_impl (kd s : ByteArray) (w : World) (hs : s.size ≤ 4194304) (hT : Tabs w) (hF : FW w) :
    Calls Tryd.prog 13 #[.string kd, .string s] w fun e w' => e = .returned (.string (longv kd s)) ∧ Below w.heap.size w w' := by
  by_cases h0 : kd = flagL ∨ kd = flagK
  · by_cases h1 : (s.size : Int) ≤ 250
    · have hz1 := long_head (kind := kd) (text := s) h0 (by omega)
      have hz2 := body_size (s ++ ⟨#[0]⟩)
      have hz3 : (s ++ (⟨#[0]⟩ : ByteArray)).size = s.size + 1 := by rw [ByteArray.size_append]; rfl
      have HE : Hid (longv kd s = lhdv zE longPath kd ((s.size : Int) + 1) ++ bodyP (s ++ ⟨#[0]⟩)) := Lib.hid (by rw [longv, if_pos ⟨h0, by omega⟩])
      have H1 := Lib.hid (fun w hT hF => longHead_impl 0 longPath ⟨#[]⟩ 0 0 0 0 ⟨#[]⟩ ⟨#[]⟩ ⟨#[]⟩ kd ((s.size : Int) + 1) w lp_size em_size (Nat.zero_le _) (Nat.zero_le _) (long_kind h0) (by omega) (by omega) (by omega) (by omega) (by omega) hT hF)
      rw [long_head2, show longPath = ⟨#[46, 47, 46, 47, 64, 76, 111, 110, 103, 76, 105, 110, 107]⟩ from rfl] at H1
      rw [show longPath = ⟨#[46, 47, 46, 47, 64, 76, 111, 110, 103, 76, 105, 110, 107]⟩ from rfl] at HE hz1
      have H2 := Lib.hid (fun w => padded_any (s ++ ⟨#[0]⟩) w (by omega))
      generalize longv kd s = r at HE
      generalize lhdv zE ⟨#[46, 47, 46, 47, 64, 76, 111, 110, 103, 76, 105, 110, 107]⟩ kd ((s.size : Int) + 1) = hd at *
      generalize bodyP (s ++ ⟨#[0]⟩) = bd at *
      have hk := kinds_of h0
      have HT := Lib.hid hT
      have HF := Lib.hid hF
      rw [hz3] at hz2
      clear h0 hT hF hz3
      rcases hk with hk | ⟨hk, hk2⟩
      · go_enter Tryd.func13, Tryd.ntmps13
        go_wp2_with fail
        refine (H1.out _ HT.out HF.out).mono ?_
        rintro e w1 ⟨rfl, hb1⟩
        have B1 := Lib.hid hb1
        clear hb1
        go_wp2_with fail
        refine (H2.out _).mono ?_
        rintro e w2 ⟨rfl, hb2⟩
        go_wp2
        go_ret
        exact ⟨ret_str HE.out.symm, btE B1.out hb2⟩
      · go_enter Tryd.func13, Tryd.ntmps13
        go_wp2_with fail
        refine (H1.out _ HT.out HF.out).mono ?_
        rintro e w1 ⟨rfl, hb1⟩
        have B1 := Lib.hid hb1
        clear hb1
        go_wp2_with fail
        refine (H2.out _).mono ?_
        rintro e w2 ⟨rfl, hb2⟩
        go_wp2
        go_ret
        exact ⟨ret_str HE.out.symm, btE B1.out hb2⟩
    · have HE := Lib.hid (long_no (kind := kd) (text := s) (fun h => h1 (by have := h.2; omega)))
      generalize longv kd s = r at HE
      have hk := kinds_of h0
      clear h0 hT hF
      rcases hk with hk | ⟨hk, hk2⟩
      · go_enter Tryd.func13, Tryd.ntmps13
        go_wp2
        go_ret
        exact ⟨ret_str HE.out.symm, Below.refl _ _⟩
      · go_enter Tryd.func13, Tryd.ntmps13
        go_wp2
        go_ret
        exact ⟨ret_str HE.out.symm, Below.refl _ _⟩
  · have HE := Lib.hid (long_no (kind := kd) (text := s) (fun h => h0 h.1))
    obtain ⟨k1, k2⟩ := kinds_not h0
    generalize longv kd s = r at HE
    clear h0 hT hF
    go_enter Tryd.func13, Tryd.ntmps13
    go_wp2
    go_ret
    exact ⟨ret_str HE.out.symm, Below.refl _ _⟩
end Go.Proofs.YtgpgkgahbkmdiaaDoor

/- The law laws.FnExactLongName returns true. -/
namespace Go.Proofs.YtgpgkgahbkmdiaaDoor
open Go.ChangeShapes Go.WideShapes Go.ChangeAt Go.RowKit

set_option maxHeartbeats 1600000 in
theorem longName_law (kd s : ByteArray) (w : World) (hT : Tabs w) (hF : FW w) :
    Calls Tryd.prog 5 #[.string kd, .string s] w fun e w' => e = .returned (.bool true) ∧ Below w.heap.size w w' := by
  have HT := Lib.hid hT
  have HF := Lib.hid hF
  clear hT hF
  by_cases h0 : (kd.size : Int) ≤ 1048576
  · by_cases h1 : (s.size : Int) ≤ 1048576
    · have H1 := Lib.hid (fun w => longName_spec kd s w (by omega))
      have H2 := Lib.hid (fun w hT hF => longName_impl kd s w (by omega) hT hF)
      generalize longv kd s = d at H1 H2
      have qd : (d.toList == d.toList) = true := by simp
      go_enter Tryd.func5, Tryd.ntmps5
      go_wp2_with fail
      first | refine (H1.out _).mono ?_ | refine (H2.out _ HT.out HF.out).mono ?_
      rintro e w1 ⟨rfl, hb1⟩
      have B := Lib.hid hb1
      clear hb1
      go_wp2_with fail
      first | refine (H1.out _).mono ?_ | refine (H2.out _ (HT.out.below B.out) (HF.out.below B.out)).mono ?_
      rintro e w2 ⟨rfl, hb⟩
      replace B := Lib.hid (btE B.out hb)
      clear hb
      go_wp2
      go_ret
      exact ⟨rfl, B.out⟩
    · go_enter Tryd.func5, Tryd.ntmps5
      go_wp2
      go_ret
      exact ⟨rfl, Below.refl _ _⟩
  · go_enter Tryd.func5, Tryd.ntmps5
    go_wp2
    go_ret
    exact ⟨rfl, Below.refl _ _⟩
end Go.Proofs.YtgpgkgahbkmdiaaDoor
