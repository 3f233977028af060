/- What a path component is, in plain Lean: bytes in 33..126 but the slash, 1 to 60 of them, neither one dot nor two. -/
import Derived.Test.YtancidbbkoeokaaGreatCom
namespace Go.Proofs.YtancidbbkoeokaaGreat
open Go.ChangeShapes Go.WideShapes Go.ChangeAt Go.RowKit

theorem ba_toList (s : ByteArray) : s.toList = s.data.toList := by
  obtain ⟨⟨l⟩⟩ := s; simp
theorem ba_ne {a b : ByteArray} (h : ¬ a = b) : (a.toList == b.toList) = false := by
  rw [ba_toList, ba_toList]
  have : a.data.toList ≠ b.data.toList := fun e => h (ba_ext e)
  simpa using this
theorem ba_eq {a b : ByteArray} (h : a = b) : (a.toList == b.toList) = true := by subst h; simp

theorem lit_eq {s : ByteArray} {l : List UInt8} (h : s = ⟨l.toArray⟩) : (s.toList == l) = true := by subst h; simp [ba_toList]
theorem lit_ne {s : ByteArray} {l : List UInt8} (h : ¬ s = ⟨l.toArray⟩) : (s.toList == l) = false := by
  rw [ba_toList]
  have : s.data.toList ≠ l := fun e => h (ba_ext (by simpa using e))
  simpa using this

def okb (c : UInt8) : Bool := decide (33 ≤ c.toNat) && decide (c.toNat ≤ 126) && decide (c.toNat ≠ 47)
def dot1 : ByteArray := ⟨#[46]⟩
def dot2 : ByteArray := ⟨#[46, 46]⟩
def partOkv (s : ByteArray) : Bool := decide (1 ≤ s.size ∧ s.size ≤ 60) && decide (s ≠ dot1) && decide (s ≠ dot2) && s.data.toList.all okb

def OkTo (s : ByteArray) (k : Nat) : Prop := (s.data.toList.take k).all okb = true
theorem OkTo.start (s : ByteArray) : OkTo s 0 := by simp [OkTo]
theorem OkTo.step {s : ByteArray} {k : Nat} (h : OkTo s k) (hk : k < s.size) (hc : okb s[k] = true) : OkTo s (k + 1) := by
  unfold OkTo at h ⊢
  rw [take_snoc s k hk]
  simp only [List.all_append, h, List.all_cons, hc, List.all_nil, Bool.and_self]
theorem OkTo.done {s : ByteArray} (h : OkTo s s.size) : s.data.toList.all okb = true := by
  unfold OkTo at h
  rwa [List.take_of_length_le (by simp)] at h
theorem okb_bad {s : ByteArray} {k : Nat} (hk : k < s.size) (hc : okb s[k] = false) : s.data.toList.all okb = false := by
  cases h : s.data.toList.all okb with
  | false => rfl
  | true =>
    have hm : s[k] ∈ s.data.toList := by
      have : s.data.toList[k]'(by simpa using hk) = s[k] := rfl
      rw [← this]; exact List.getElem_mem _
    have := List.all_eq_true.1 h _ hm
    rw [hc] at this; cases this
theorem okb_t {c : UInt8} (h1 : (33 : Int) ≤ (c.toNat : Int)) (h2 : (c.toNat : Int) ≤ 126) (h3 : ¬ (c.toNat : Int) = 47) : okb c = true := by
  simp [okb]; omega
theorem okb_f {c : UInt8} (h : ¬ ((33 : Int) ≤ (c.toNat : Int) ∧ (c.toNat : Int) ≤ 126) ∨ (c.toNat : Int) = 47) : okb c = false := by
  simp [okb]; omega
theorem partOk_bad {s : ByteArray} (h : s.data.toList.all okb = false) : partOkv s = false := by simp [partOkv, h]
theorem partOk_size {s : ByteArray} (h : ¬ (1 ≤ s.size ∧ s.size ≤ 60)) : partOkv s = false := by simp [partOkv, h]
theorem partOk_dot1 {s : ByteArray} (h : s = dot1) : partOkv s = false := by simp [partOkv, h]
theorem partOk_dot2 {s : ByteArray} (h : s = dot2) : partOkv s = false := by simp [partOkv, h]
theorem partOk_good {s : ByteArray} (h : s.data.toList.all okb = true) (h1 : 1 ≤ s.size ∧ s.size ≤ 60) (h2 : ¬ s = dot1) (h3 : ¬ s = dot2) : partOkv s = true := by simp [partOkv, h, h1, h2, h3]
end Go.Proofs.YtancidbbkoeokaaGreat
