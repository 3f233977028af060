/- The texts of a header, and that what the program lays field by field is their sum: plain lists only. -/
import Derived.Test.YtkpdeeembnjmnabDoorPutOH
import Derived.Test.YtkpdeeembnjmnabDoorHeadSum
import Derived.Test.YtkpdeeembnjmnabDoorFits
import Derived.Test.YtkpdeeembnjmnabDoorFill
namespace Go.Proofs.YtkpdeeembnjmnabDoor
open Go.ChangeShapes Go.WideShapes Go.ChangeAt Go.RowKit

def octz (n width : Int) : ByteArray := (putOctv n (width - 1)).1 ++ ⟨#[0]⟩
def magicU : ByteArray := ⟨#[117, 115, 116, 97, 114, 0, 48, 48]⟩
def headA (e : Ent) (name : ByteArray) (size : Int) : ByteArray := fillv name 100 ++ octz e.mode 8 ++ octz e.uid 8 ++ octz e.gid 8 ++ octz size 12 ++ octz e.time 12
def headB (e : Ent) (pf flag magic : ByteArray) : ByteArray := flag ++ fillv e.link 100 ++ magic ++ fillv e.user 32 ++ fillv e.group 32 ++ octz 0 8 ++ octz 0 8 ++ fillv pf 155 ++ nulv 12
def headv (e : Ent) (name pf flag : ByteArray) (size : Int) (magic : ByteArray) : ByteArray :=
  headA e name size ++ (putOctv (sumv (headA e name size).data.toList + 256 + sumv (headB e pf flag magic).data.toList) 6).1 ++ ⟨#[0, 32]⟩ ++ headB e pf flag magic
def putHeadv (e : Ent) (flag : ByteArray) (size : Int) : ByteArray :=
  if fitsv e = true ∧ flag.size = 1 ∧ (0 ≤ size ∧ size ≤ 3000) then headv e (splitN e.path) (splitP e.path) flag size magicU else ⟨#[]⟩

theorem numeral_8 {n k : Nat} (hk : 1 ≤ k) (h : n < 8 ^ k) : (numeral 8 n).length ≤ k := numeral_len (by omega) hk h
/-- A number that fits has just as many digits as its field. -/
theorem oct_fits {n : Int} {k : Nat} (h0 : 0 ≤ n) (hk : 1 ≤ k) (hk2 : k ≤ 17) (h : n.toNat < 8 ^ k) : (putOctv n k).2 = true ∧ (putOctv n k).1.size = k ∧ (putOctv n k).1 = ⟨(ahead (numeral 8 n.toNat) k).toArray⟩ := by
  have hp : (8 : Nat) ^ k ≤ 8 ^ 17 := Nat.pow_le_pow_right (by omega) hk2
  have hl := numeral_8 hk h
  have h17 : (8 : Nat) ^ 17 = 2251799813685248 := by decide
  have hv : Valid n k ∧ ((numeral 8 n.toNat).length : Int) ≤ k := ⟨⟨h0, by omega, by omega, by omega⟩, by omega⟩
  have e : putOctv n k = (⟨(ahead (numeral 8 n.toNat) k).toArray⟩, true) := by rw [putOctv, if_pos hv]
  rw [e]
  exact ⟨rfl, by rw [ba_size, ahead_len]; omega, rfl⟩
theorem putOct_size (n width : Int) : (putOctv n width).1.size ≤ 20 := by
  unfold putOctv
  split
  · rename_i h
    rw [ba_size, ahead_len]
    have := h.1.2.2.2
    omega
  · decide
theorem octz_size (n width : Int) : (octz n width).size ≤ 21 := by
  rw [octz, ByteArray.size_append]
  have := putOct_size n (width - 1)
  have e : (⟨#[0]⟩ : ByteArray).size = 1 := rfl
  omega
theorem fill_size (s : ByteArray) (width : Int) (h : 0 ≤ width) : (fillv s width).size ≤ s.size + width.toNat := by
  unfold fillv
  split
  · omega
  · rw [ByteArray.size_append, nulv_size]; omega
/-- A field of a text, filled. -/
theorem fill_short {s : ByteArray} {n : Nat} (h : s.size ≤ n) (hn : n ≤ 1024) : (fillv s n).data.toList = s.data.toList ++ nuls (n - s.size) := by
  unfold fillv
  by_cases q : s.size = n
  · rw [if_pos (.inr (by omega)), show n - s.size = 0 from by omega]; simp [nuls]
  · rw [if_neg (by omega), show ((n : Int) - s.size).toNat = n - s.size from by omega]
    simp [nulv]

/-- What a field of l holds behind a text laid over it. -/
theorem over_mid (a f b s : List UInt8) (h : s.length ≤ f.length) : over (a ++ f ++ b) a.length s = a ++ (s ++ f.drop s.length) ++ b := by
  unfold over
  have h1 : (a ++ f ++ b).take a.length = a := by simp
  have h2 : (a ++ f ++ b).drop (a.length + s.length) = f.drop s.length ++ b := by
    rw [List.append_assoc, ← List.drop_drop]
    simp [List.drop_append, Nat.sub_eq_zero_of_le h]
  rw [h1, h2]
  simp
/-- The fields of a header, each of its width, and what stands behind them. -/
def WF (F : List (List UInt8)) : Prop := F.map List.length = widths ++ [12]
def flat (F : List (List UInt8)) : List UInt8 := F.flatten
theorem flat_at {F : List (List UInt8)} (hF : WF F) {k x : Nat} (hk : k < 15) (hx : widths[k]? = some x) : ∃ f, F[k]? = some f ∧ f.length = x ∧ ∀ s : List UInt8, s.length ≤ x → over (flat F) (offs k) s = flat (F.set k (s ++ f.drop s.length)) := by
  have hlen : F.length = 16 := by have := congrArg List.length hF; simpa [widths] using this
  have hf : F[k]? = some F[k] := List.getElem?_eq_getElem (by omega)
  have hl : F[k].length = x := by
    have h1 : (F.map List.length)[k]? = some F[k].length := by rw [List.getElem?_map, hf]; rfl
    rw [hF, List.getElem?_append_left (by simp [widths]; omega), hx] at h1
    exact (Option.some.inj h1).symm
  refine ⟨F[k], hf, hl, fun s hs => ?_⟩
  have ho : (F.take k).flatten.length = offs k := by
    rw [List.length_flatten, List.map_take, hF, offs, List.take_append_of_le_length (by simp [widths]; omega)]
  have e1 : flat F = (F.take k).flatten ++ F[k] ++ (F.drop (k + 1)).flatten := by
    unfold flat
    have e0 : F = F.take k ++ F[k] :: F.drop (k + 1) := by rw [← List.drop_eq_getElem_cons (by omega : k < F.length), List.take_append_drop]
    have e3 := congrArg List.flatten e0
    rw [List.flatten_append, List.flatten_cons, ← List.append_assoc] at e3
    exact e3
  have e2 : flat (F.set k (s ++ F[k].drop s.length)) = (F.take k).flatten ++ (s ++ F[k].drop s.length) ++ (F.drop (k + 1)).flatten := by
    unfold flat
    rw [List.set_eq_take_append_cons_drop, if_pos (by omega)]
    simp
  rw [e1, e2, ← ho]
  exact over_mid _ _ _ _ (by omega)
theorem WF.set {F : List (List UInt8)} (hF : WF F) {k x : Nat} (hk : k < 15) (hx : widths[k]? = some x) {g : List UInt8} (hg : g.length = x) : WF (F.set k g) := by
  unfold WF at hF ⊢
  rw [List.map_set, hF]
  apply List.ext_getElem?
  intro i
  by_cases hi : i = k
  · subst hi
    rw [List.getElem?_set_self (by simp [widths]; omega), List.getElem?_append_left (by simp [widths]; omega), hx, hg]
  · rw [List.getElem?_set_ne (fun e => hi e.symm)]
end Go.Proofs.YtkpdeeembnjmnabDoor
