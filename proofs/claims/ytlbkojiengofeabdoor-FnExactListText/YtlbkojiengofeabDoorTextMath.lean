/- The text of an entry: plain mathematics. -/
import Derived.Test.YtlbkojiengofeabDoorEntOk
import Derived.Test.YtlbkojiengofeabDoorPutOH
import Derived.Lib.Join
namespace Go.Proofs.YtlbkojiengofeabDoor
open Go.RowKit

def kindCh (k : Int) : ByteArray := if k = 0 then ⟨#[102]⟩ else if k = 1 then ⟨#[100]⟩ else if k = 2 then ⟨#[108]⟩ else ⟨#[104]⟩
def orV (s : ByteArray) : ByteArray := if s.size = 0 then ⟨#[45]⟩ else s
/-- The words of an entry's text but for its link. -/
def nineW (e : Ent) : List ByteArray := [kindCh e.kind, (putOctv e.mode 4).1, decTextv e.uid, decTextv e.gid, decTextv e.time, orV e.user, orV e.group, decTextv e.body.size, e.path]
def linkW (e : Ent) : List ByteArray := if e.link.size = 0 then [] else [⟨#[45, 62]⟩, e.link]
def joinB (xs : List ByteArray) : ByteArray := ⟨(Lib.join (xs.map (·.data.toList)) [32]).toArray⟩
def entTextv (e : Ent) : ByteArray := if entOkv e = true then joinB (nineW e ++ linkW e) else ⟨#[]⟩
/-- What spec adds up. -/
def nineS (a b c d e f g h i : ByteArray) : ByteArray := a ++ ⟨#[32]⟩ ++ b ++ ⟨#[32]⟩ ++ c ++ ⟨#[32]⟩ ++ d ++ ⟨#[32]⟩ ++ e ++ ⟨#[32]⟩ ++ f ++ ⟨#[32]⟩ ++ g ++ ⟨#[32]⟩ ++ h ++ ⟨#[32]⟩ ++ i
theorem nine_join (a b c d e f g h i : ByteArray) : nineS a b c d e f g h i = joinB [a, b, c, d, e, f, g, h, i] := by
  apply ba_ext
  simp [nineS, joinB, Lib.join, List.intercalate, List.intersperse]
theorem link_join (a b c d e f g h i l : ByteArray) : nineS a b c d e f g h i ++ ⟨#[32, 45, 62, 32]⟩ ++ l = joinB ([a, b, c, d, e, f, g, h, i] ++ [⟨#[45, 62]⟩, l]) := by
  apply ba_ext
  simp [nineS, joinB, Lib.join, List.intercalate, List.intersperse]
/-- What a right entry's fields are. -/
theorem entOk_parts {e : Ent} (h : entOkv e = true) : (e.kind = 0 ∨ e.kind = 1 ∨ e.kind = 2 ∨ e.kind = 3) ∧ (0 ≤ e.mode ∧ e.mode ≤ 4095) ∧ (0 ≤ e.uid ∧ e.uid ≤ 4294967295) ∧ (0 ≤ e.gid ∧ e.gid ≤ 4294967295) ∧ (0 ≤ e.time ∧ e.time ≤ 99999999999) ∧ e.path.size ≤ 200 ∧ e.user.size ≤ 20 ∧ e.group.size ≤ 20 ∧ e.body.size ≤ 3000 ∧ e.link.size ≤ 200 := by
  obtain ⟨k, p, l, m, u, g, t, us, gr, b⟩ := e
  simp only [entOkv, Bool.and_eq_true, inB, decide_eq_true_eq, pathOkv, whov] at h ⊢
  obtain ⟨⟨⟨⟨⟨⟨⟨h1, h2⟩, h3⟩, h4⟩, h5⟩, h6⟩, h7⟩, h8⟩ := h
  have hk : (k = 0 ∨ k = 1 ∨ k = 2 ∨ k = 3) ∧ b.size ≤ 3000 ∧ l.size ≤ 200 := by
    unfold kindOk at h8
    split at h8
    · simp only [Bool.and_eq_true, decide_eq_true_eq] at h8; omega
    · split at h8
      · simp only [Bool.and_eq_true, decide_eq_true_eq] at h8; omega
      · split at h8
        · simp only [Bool.and_eq_true, decide_eq_true_eq, inB] at h8; omega
        · split at h8
          · simp only [Bool.and_eq_true, decide_eq_true_eq, pathOkv] at h8; omega
          · cases h8
  exact ⟨hk.1, h2, h3, h4, h5, h1.1, h6.2, h7.2, hk.2.1, hk.2.2⟩
theorem dec_size (n : Int) (h0 : 0 ≤ n) (h1 : n ≤ 99999999999) : (decTextv n).size ≤ 12 := by
  rw [decTextv, ba_size, decText, if_neg (by omega)]
  exact numeral_len (by omega) (by omega) (by omega)
theorem oct_size (m : Int) : (putOctv m 4).1.size ≤ 4 := by
  unfold putOctv
  split
  · rename_i h
    rw [ba_size, ahead_len]
    have := h.2
    omega
  · exact Nat.zero_le 4
theorem or_size (s : ByteArray) (h : s.size ≤ 20) : (orV s).size ≤ 20 := by
  unfold orV
  split
  · decide
  · exact h
end Go.Proofs.YtlbkojiengofeabDoor
