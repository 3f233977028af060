/- The cards of a list of entries and the entries of a list of cards: plain mathematics. -/
import Derived.Test.YtancidbbkoeokaaGreatListOk
import Derived.Test.YtancidbbkoeokaaGreatCardA
namespace Go.Proofs.YtancidbbkoeokaaGreat
open Go.RowKit

/-- The inode of an entry e that stands at i. -/
def inov (L : List Ent) (i : Nat) (e : Ent) : Int := if e.kind = 3 then findv L e.link + 1 else (i : Int) + 1
def inoAt (L : List Ent) (i : Nat) : Int := inov L i (L.getD i entD)
def modev (k : Int) : Int := if k = 1 then 16384 else if k = 2 then 40960 else 32768
def datav (e : Ent) : ByteArray := if e.kind = 2 then e.link else e.body
/-- How many of the first n entries have the inode x. -/
def countTo (L : List Ent) (x : Int) : Nat → Nat
  | 0 => 0
  | n + 1 => countTo L x n + if inoAt L n = x then 1 else 0
theorem countTo_le (L : List Ent) (x : Int) (n : Nat) : countTo L x n ≤ n := by
  induction n with
  | zero => exact Nat.le_refl _
  | succ n ih => rw [countTo]; split <;> omega
def cardv (L : List Ent) (i : Nat) (e : Ent) : Card := ⟨inov L i e, e.mode + modev e.kind, e.uid, e.gid, if e.kind = 1 then 2 else (countTo L (inov L i e) L.length : Nat), e.time, e.path, datav e⟩
def cardsTo (L : List Ent) : Nat → List Card
  | 0 => []
  | n + 1 => cardsTo L n ++ [cardv L n (L.getD n entD)]
def cardsv (L : List Ent) : List Card := if listOkv L then cardsTo L L.length else []
theorem cardsTo_len (L : List Ent) (n : Nat) : (cardsTo L n).length = n := by
  induction n with
  | zero => rfl
  | succ n ih => simp [cardsTo, ih]
theorem cardsTo_get (L : List Ent) (n i : Nat) (h : i < n) : (cardsTo L n)[i]? = some (cardv L i (L.getD i entD)) := by
  induction n with
  | zero => omega
  | succ n ih =>
    rw [cardsTo]
    by_cases e : i = n
    · subst e
      rw [List.getElem?_append_right (by rw [cardsTo_len]; omega), cardsTo_len]
      simp
    · rw [List.getElem?_append_left (by rw [cardsTo_len]; omega)]
      exact ih (by omega)
def zeroCd : Card := ⟨0, 0, 0, 0, 0, 0, ⟨#[]⟩, ⟨#[]⟩⟩
theorem getD_of {L : List Ent} {i : Nat} {e : Ent} (h : L[i]? = some e) : L.getD i entD = e := by simp [List.getD, h]
theorem inoAt_of {L : List Ent} {i : Nat} {e : Ent} (h : L[i]? = some e) : inoAt L i = inov L i e := by rw [inoAt, getD_of h]
/-- What a list that is in order says of its i-th entry. -/
theorem listOk_at {L : List Ent} (h : listOkv L = true) {i : Nat} {e : Ent} (he : L[i]? = some e) : entOkv e = true ∧ findv L e.path = (i : Int) ∧ (e.kind = 3 → fileAt (L.take i) e.link = true) := by
  have hlt : i < L.length := (List.getElem?_eq_some_iff.1 he).1
  simp only [listOkv, Bool.and_eq_true, List.all_eq_true] at h
  have h1 := h.1 i (List.mem_range.2 hlt)
  rw [getD_of he] at h1
  simp only [entAtOk, Bool.and_eq_true, decide_eq_true_eq] at h1
  refine ⟨h1.1.1, h1.1.2, fun hk => ?_⟩
  have h2 := h1.2
  rwa [if_pos hk] at h2
theorem listOk_len {L : List Ent} (h : listOkv L = true) : L.length ≤ 30 := by
  simp only [listOkv, Bool.and_eq_true, decide_eq_true_eq] at h
  exact h.2
theorem entOk_facts {e : Ent} (h : entOkv e = true) : (0 ≤ e.mode ∧ e.mode ≤ 4095) ∧ (0 ≤ e.uid ∧ e.uid ≤ 4294967295) ∧ (0 ≤ e.gid ∧ e.gid ≤ 4294967295) ∧ (0 ≤ e.time ∧ e.time ≤ 99999999999) ∧ kindOk e.kind e.path e.link e.body = true := by
  simp only [entOkv, Bool.and_eq_true, inB, decide_eq_true_eq] at h
  obtain ⟨⟨⟨⟨⟨⟨⟨_, hm⟩, hu⟩, hg⟩, ht⟩, _⟩, _⟩, hk⟩ := h
  exact ⟨hm, hu, hg, ht, hk⟩
theorem kind_facts {k : Int} {p l b : ByteArray} (h : kindOk k p l b = true) : (k = 0 ∧ l.size = 0) ∨ (k = 1 ∧ l.size = 0 ∧ b.size = 0) ∨ (k = 2 ∧ b.size = 0) ∨ (k = 3 ∧ b.size = 0) := by
  unfold kindOk at h
  split at h
  · simp only [Bool.and_eq_true, decide_eq_true_eq] at h; exact .inl ⟨by assumption, h.1⟩
  · split at h
    · simp only [Bool.and_eq_true, decide_eq_true_eq] at h; exact .inr (.inl ⟨by assumption, h.1, h.2⟩)
    · split at h
      · simp only [Bool.and_eq_true, decide_eq_true_eq] at h; exact .inr (.inr (.inl ⟨by assumption, h.2⟩))
      · split at h
        · simp only [Bool.and_eq_true, decide_eq_true_eq] at h; exact .inr (.inr (.inr ⟨by assumption, h.2⟩))
        · cases h
theorem ba_nil {b : ByteArray} (h : b.size = 0) : b = ⟨#[]⟩ := by
  obtain ⟨⟨l⟩⟩ := b
  cases l with
  | nil => rfl
  | cons x xs => simp [ByteArray.size] at h
/-- The file that a hard link of a list in order leads to. -/
theorem hard_at {L : List Ent} (h : listOkv L = true) {i : Nat} {e : Ent} (he : L[i]? = some e) (hk : e.kind = 3) : ∃ (j : Nat) (f : Ent), j < i ∧ L[j]? = some f ∧ findv L e.link = (j : Int) ∧ f.kind = 0 ∧ f.path = e.link := by
  have h1 := (listOk_at h he).2.2 hk
  rcases find_cases (L.take i) e.link with h2 | ⟨a, f, h2, h3, h4⟩
  · rw [fileAt_none h2] at h1; cases h1
  · rw [fileAt_some h2 h3, decide_eq_true_eq] at h1
    have ha : a < i := by
      have := (List.getElem?_eq_some_iff.1 h3).1
      simp at this
      omega
    have hf : L[a]? = some f := by rw [List.getElem?_take_of_lt ha] at h3; exact h3
    exact ⟨a, f, ha, hf, by rw [← h4]; exact (listOk_at h hf).2.1, h1, h4⟩
/-- An inode is one of a place no later than its own. -/
theorem ino_bounds {L : List Ent} (h : listOkv L = true) {i : Nat} {e : Ent} (he : L[i]? = some e) : 1 ≤ inov L i e ∧ inov L i e ≤ i + 1 ∧ (e.kind = 3 → inov L i e ≤ i) := by
  unfold inov
  by_cases hk : e.kind = 3
  · obtain ⟨j, f, hj, _, h1, _⟩ := hard_at h he hk
    rw [if_pos hk, h1]
    omega
  · rw [if_neg hk]
    omega
theorem ino_plain {L : List Ent} {i : Nat} {e : Ent} (hk : ¬ e.kind = 3) : inov L i e = i + 1 := by rw [inov, if_neg hk]
/-- The entry of a card, by those ahead of it: the model's way. -/
def modeOf (m : Int) : Int := m % 4096
def entS (A : List Card) (c : Card) : Ent :=
  if c.Mode - modeOf c.Mode = 16384 then ⟨1, c.Path, ⟨#[]⟩, modeOf c.Mode, c.Uid, c.Gid, c.Time, ⟨#[]⟩, ⟨#[]⟩, ⟨#[]⟩⟩
  else if c.Mode - modeOf c.Mode = 40960 then ⟨2, c.Path, c.Data, modeOf c.Mode, c.Uid, c.Gid, c.Time, ⟨#[]⟩, ⟨#[]⟩, ⟨#[]⟩⟩
  else match A.find? (fun a => decide (a.Ino = c.Ino)) with
    | some a => ⟨3, c.Path, a.Path, modeOf c.Mode, c.Uid, c.Gid, c.Time, ⟨#[]⟩, ⟨#[]⟩, ⟨#[]⟩⟩
    | none => ⟨0, c.Path, ⟨#[]⟩, modeOf c.Mode, c.Uid, c.Gid, c.Time, ⟨#[]⟩, ⟨#[]⟩, c.Data⟩
/-- The entry of a card by its place: the program's way. -/
def pathOfIno (C : List Card) (n : Int) : ByteArray := if n < 1 ∨ (C.length : Int) < n then ⟨#[]⟩ else (C.getD (n - 1).toNat zeroCd).Path
def entI (C : List Card) (i : Nat) (c : Card) : Ent :=
  if c.Mode - modeOf c.Mode = 16384 then ⟨1, c.Path, ⟨#[]⟩, modeOf c.Mode, c.Uid, c.Gid, c.Time, ⟨#[]⟩, ⟨#[]⟩, ⟨#[]⟩⟩
  else if c.Mode - modeOf c.Mode = 40960 then ⟨2, c.Path, c.Data, modeOf c.Mode, c.Uid, c.Gid, c.Time, ⟨#[]⟩, ⟨#[]⟩, ⟨#[]⟩⟩
  else if c.Ino = (i : Int) + 1 then ⟨0, c.Path, ⟨#[]⟩, modeOf c.Mode, c.Uid, c.Gid, c.Time, ⟨#[]⟩, ⟨#[]⟩, c.Data⟩
  else ⟨3, c.Path, pathOfIno C c.Ino, modeOf c.Mode, c.Uid, c.Gid, c.Time, ⟨#[]⟩, ⟨#[]⟩, ⟨#[]⟩⟩
def entsS (C : List Card) : Nat → List Ent
  | 0 => []
  | n + 1 => entsS C n ++ [entS (C.take n) (C.getD n zeroCd)]
def entsI (C : List Card) : Nat → List Ent
  | 0 => []
  | n + 1 => entsI C n ++ [entI C n (C.getD n zeroCd)]
theorem entsS_len (C : List Card) (n : Nat) : (entsS C n).length = n := by
  induction n with
  | zero => rfl
  | succ n ih => simp [entsS, ih]
theorem entsI_len (C : List Card) (n : Nat) : (entsI C n).length = n := by
  induction n with
  | zero => rfl
  | succ n ih => simp [entsI, ih]
theorem entsS_get (C : List Card) (n i : Nat) (h : i < n) : (entsS C n)[i]? = some (entS (C.take i) (C.getD i zeroCd)) := by
  induction n with
  | zero => omega
  | succ n ih =>
    rw [entsS]
    by_cases e : i = n
    · subst e
      rw [List.getElem?_append_right (by rw [entsS_len]; omega), entsS_len]
      simp
    · rw [List.getElem?_append_left (by rw [entsS_len]; omega)]
      exact ih (by omega)
theorem entsI_get (C : List Card) (n i : Nat) (h : i < n) : (entsI C n)[i]? = some (entI C i (C.getD i zeroCd)) := by
  induction n with
  | zero => omega
  | succ n ih =>
    rw [entsI]
    by_cases e : i = n
    · subst e
      rw [List.getElem?_append_right (by rw [entsI_len]; omega), entsI_len]
      simp
    · rw [List.getElem?_append_left (by rw [entsI_len]; omega)]
      exact ih (by omega)
/-- No user and no group. -/
def bareE (e : Ent) : Prop := e.user = ⟨#[]⟩ ∧ e.group = ⟨#[]⟩
theorem bareS (A : List Card) (c : Card) : bareE (entS A c) := by
  unfold entS
  split
  · exact ⟨rfl, rfl⟩
  · split
    · exact ⟨rfl, rfl⟩
    · split <;> exact ⟨rfl, rfl⟩
theorem bareI (C : List Card) (i : Nat) (c : Card) : bareE (entI C i c) := by
  unfold entI
  split
  · exact ⟨rfl, rfl⟩
  · split
    · exact ⟨rfl, rfl⟩
    · split <;> exact ⟨rfl, rfl⟩
theorem cardsv_ok {L : List Ent} (h : listOkv L = true) : cardsv L = cardsTo L L.length := by rw [cardsv, if_pos h]
theorem cardsv_get {L : List Ent} (h : listOkv L = true) {i : Nat} {e : Ent} (he : L[i]? = some e) : (cardsv L)[i]? = some (cardv L i e) := by
  rw [cardsv_ok h, cardsTo_get _ _ _ (List.getElem?_eq_some_iff.1 he).1, getD_of he]
theorem cardsv_len {L : List Ent} (h : listOkv L = true) : (cardsv L).length = L.length := by rw [cardsv_ok h, cardsTo_len]
theorem mode_parts {m k : Int} (h0 : 0 ≤ m) (h1 : m ≤ 4095) : modeOf (m + modev k) = m ∧ m + modev k - m = modev k := by
  unfold modeOf modev
  constructor
  · split
    · omega
    · split <;> omega
  · omega
theorem modev_cases {k : Int} : (k = 1 → modev k = 16384) ∧ (k = 2 → modev k = 40960) ∧ (¬ k = 1 → ¬ k = 2 → modev k = 32768) := by
  refine ⟨fun h => by rw [modev, if_pos h], fun h => by rw [modev, if_neg (by omega), if_pos h], fun h1 h2 => by rw [modev, if_neg h1, if_neg h2]⟩
theorem find_first {L : List Ent} (h : listOkv L = true) {i j : Nat} {f : Ent} (hj : j < i) (hf : L[j]? = some f) (hk : f.kind = 0) (hi : i ≤ L.length) : ((cardsv L).take i).find? (fun a => decide (a.Ino = (j : Int) + 1)) = some (cardv L j f) := by
  have hg := cardsv_get h hf
  have hlen := cardsv_len h
  rw [List.find?_eq_some_iff_getElem]
  refine ⟨by simp [cardv, ino_plain (L := L) (i := j) (e := f) (by omega)], j, by simp; omega, ?_, ?_⟩
  · rw [List.getElem_take]
    have := (List.getElem?_eq_some_iff.1 hg)
    obtain ⟨_, hq⟩ := this
    exact hq
  · intro k hk'
    rw [List.getElem_take]
    have hkl : k < L.length := by omega
    have he : L[k]? = some L[k] := List.getElem?_eq_getElem hkl
    have hc := cardsv_get h he
    obtain ⟨_, hq⟩ := List.getElem?_eq_some_iff.1 hc
    rw [hq]
    have hb := ino_bounds h he
    show (!decide (inov L k L[k] = (j : Int) + 1)) = true
    rw [decide_eq_false (by omega)]
    rfl
theorem find_none {L : List Ent} (h : listOkv L = true) {i : Nat} (hi : i ≤ L.length) : ((cardsv L).take i).find? (fun a => decide (a.Ino = (i : Int) + 1)) = none := by
  rw [List.find?_eq_none]
  intro c hc
  obtain ⟨k, hk⟩ := List.mem_iff_getElem?.1 hc
  have hki : k < i := by
    have := (List.getElem?_eq_some_iff.1 hk).1
    simp at this
    omega
  rw [List.getElem?_take_of_lt hki] at hk
  have he : L[k]? = some L[k] := List.getElem?_eq_getElem (by omega)
  rw [cardsv_get h he] at hk
  obtain rfl := Option.some.inj hk
  have hb := ino_bounds h he
  show ¬ decide (inov L k L[k] = (i : Int) + 1) = true
  rw [decide_eq_false (by omega)]
  simp
theorem ent_eta (e : Ent) (h : bareE e) : e = ⟨e.kind, e.path, e.link, e.mode, e.uid, e.gid, e.time, ⟨#[]⟩, ⟨#[]⟩, e.body⟩ := by
  obtain ⟨k, p, l, m, u, g, t, us, gr, b⟩ := e
  obtain ⟨rfl, rfl⟩ := h
  rfl
theorem back_S {L : List Ent} (h : listOkv L = true) {i : Nat} {e : Ent} (he : L[i]? = some e) (hb : bareE e) : entS ((cardsv L).take i) (cardv L i e) = e := by
  obtain ⟨hm, hu, hg, ht, hk⟩ := entOk_facts (listOk_at h he).1
  have hlt : i < L.length := (List.getElem?_eq_some_iff.1 he).1
  obtain ⟨q1, q2⟩ := mode_parts (k := e.kind) hm.1 hm.2
  conv => rhs; rw [ent_eta e hb]
  unfold entS
  simp only [cardv, q1, q2]
  rcases kind_facts hk with ⟨k0, hl⟩ | ⟨k0, hl, hbd⟩ | ⟨k0, hbd⟩ | ⟨k0, hbd⟩
  · rw [modev_cases.2.2 (by omega) (by omega), if_neg (by decide), if_neg (by decide)]
    simp only [inov, k0, if_neg (show ¬ (0 : Int) = 3 by decide), find_none h (Nat.le_of_lt hlt)]
    simp [datav, k0, ba_nil hl]
  · rw [modev_cases.1 k0, if_pos rfl]
    simp [k0, ba_nil hl, ba_nil hbd]
  · rw [modev_cases.2.1 k0, if_neg (by decide), if_pos rfl]
    simp [datav, k0, ba_nil hbd]
  · obtain ⟨j, f, hj, hf, h1, h2, h3⟩ := hard_at h he k0
    rw [modev_cases.2.2 (by omega) (by omega), if_neg (by decide), if_neg (by decide)]
    simp only [inov, k0, if_true, h1, find_first h hj hf h2 (Nat.le_of_lt hlt)]
    simp [cardv, h3, ba_nil hbd]
theorem back_I {L : List Ent} (h : listOkv L = true) {i : Nat} {e : Ent} (he : L[i]? = some e) (hb : bareE e) : entI (cardsv L) i (cardv L i e) = e := by
  obtain ⟨hm, hu, hg, ht, hk⟩ := entOk_facts (listOk_at h he).1
  have hlt : i < L.length := (List.getElem?_eq_some_iff.1 he).1
  obtain ⟨q1, q2⟩ := mode_parts (k := e.kind) hm.1 hm.2
  conv => rhs; rw [ent_eta e hb]
  unfold entI
  simp only [cardv, q1, q2]
  rcases kind_facts hk with ⟨k0, hl⟩ | ⟨k0, hl, hbd⟩ | ⟨k0, hbd⟩ | ⟨k0, hbd⟩
  · rw [modev_cases.2.2 (by omega) (by omega), if_neg (by decide), if_neg (by decide), ino_plain (by omega), if_pos rfl]
    simp [datav, k0, ba_nil hl]
  · rw [modev_cases.1 k0, if_pos rfl]
    simp [k0, ba_nil hl, ba_nil hbd]
  · rw [modev_cases.2.1 k0, if_neg (by decide), if_pos rfl]
    simp [datav, k0, ba_nil hbd]
  · obtain ⟨j, f, hj, hf, h1, h2, h3⟩ := hard_at h he k0
    have hi : inov L i e = (j : Int) + 1 := by rw [inov, if_pos k0, h1]
    have hc := cardsv_get h hf
    rw [modev_cases.2.2 (by omega) (by omega), if_neg (by decide), if_neg (by decide), hi, if_neg (by omega)]
    have hp : pathOfIno (cardsv L) ((j : Int) + 1) = e.link := by
      rw [pathOfIno, if_neg (by rw [cardsv_len h]; omega), show ((j : Int) + 1 - 1).toNat = j from by omega]
      simp [List.getD, hc, cardv, h3]
    rw [hp]
    simp [k0, ba_nil hbd]
theorem entsS_back {L : List Ent} (h : listOkv L = true) (hb : ∀ e ∈ L, bareE e) : entsS (cardsv L) (cardsv L).length = L := by
  apply List.ext_getElem?
  intro i
  rw [cardsv_len h]
  by_cases hlt : i < L.length
  · have he : L[i]? = some L[i] := List.getElem?_eq_getElem hlt
    rw [entsS_get _ _ _ hlt, he]
    have hc := cardsv_get h he
    rw [show (cardsv L).getD i zeroCd = cardv L i L[i] from by simp [List.getD, hc]]
    rw [back_S h he (hb _ (List.mem_of_getElem? he))]
  · rw [List.getElem?_eq_none (by rw [entsS_len]; omega), List.getElem?_eq_none (by omega)]
theorem entsI_back {L : List Ent} (h : listOkv L = true) (hb : ∀ e ∈ L, bareE e) : entsI (cardsv L) (cardsv L).length = L := by
  apply List.ext_getElem?
  intro i
  rw [cardsv_len h]
  by_cases hlt : i < L.length
  · have he : L[i]? = some L[i] := List.getElem?_eq_getElem hlt
    rw [entsI_get _ _ _ hlt, he]
    have hc := cardsv_get h he
    rw [show (cardsv L).getD i zeroCd = cardv L i L[i] from by simp [List.getD, hc]]
    rw [back_I h he (hb _ (List.mem_of_getElem? he))]
  · rw [List.getElem?_eq_none (by rw [entsI_len]; omega), List.getElem?_eq_none (by omega)]
theorem entsS_bare (C : List Card) (n : Nat) : ∀ e ∈ entsS C n, bareE e := by
  induction n with
  | zero => intro e he; cases he
  | succ n ih =>
    intro e he
    rw [entsS, List.mem_append] at he
    rcases he with h | h
    · exact ih e h
    · rw [List.mem_singleton] at h; subst h; exact bareS _ _
theorem entsI_bare (C : List Card) (n : Nat) : ∀ e ∈ entsI C n, bareE e := by
  induction n with
  | zero => intro e he; cases he
  | succ n ih =>
    intro e he
    rw [entsI, List.mem_append] at he
    rcases he with h | h
    · exact ih e h
    · rw [List.mem_singleton] at h; subst h; exact bareI _ _ _
/-- Both ways accept the same cards, and read the same entries of them. -/
def okS (C : List Card) : Bool := listOkv (entsS C C.length) && decide (cardsv (entsS C C.length) = C)
def okI (C : List Card) : Bool := decide (cardsv (entsI C C.length) = C)
theorem entries_same (C : List Card) (h : okS C = true ∨ okI C = true) : okS C = true ∧ okI C = true ∧ entsI C C.length = entsS C C.length := by
  have key : ∀ L : List Ent, listOkv L = true → (∀ e ∈ L, bareE e) → cardsv L = C → okS C = true ∧ okI C = true ∧ entsI C C.length = entsS C C.length := by
    intro L h1 h2 h3
    have s := entsS_back h1 h2
    have i := entsI_back h1 h2
    rw [h3] at s i
    exact ⟨by simp [okS, s, h1, h3], by simp [okI, i, h3], by rw [s, i]⟩
  rcases h with h | h
  · simp only [okS, Bool.and_eq_true, decide_eq_true_eq] at h
    exact key _ h.1 (entsS_bare _ _) h.2
  · simp only [okI, decide_eq_true_eq] at h
    by_cases hk : listOkv (entsI C C.length) = true
    · exact key _ hk (entsI_bare _ _) h
    · have h0 : C = [] := by rw [← h, cardsv, if_neg hk]
      subst h0
      exact ⟨rfl, rfl, rfl⟩
def entriesv (C : List Card) : List Ent := if okS C then entsS C C.length else []
theorem okI_eq (C : List Card) : okI C = okS C := by
  cases h1 : okS C with
  | true => exact (entries_same C (.inl h1)).2.1
  | false =>
    cases h2 : okI C with
    | false => rfl
    | true => rw [(entries_same C (.inr h2)).1] at h1; cases h1
theorem cardsv_le (L : List Ent) : (cardsv L).length ≤ L.length := by
  unfold cardsv
  split
  · rw [cardsTo_len]; exact Nat.le_refl _
  · exact Nat.zero_le _
theorem entriesv_le (C : List Card) : (entriesv C).length ≤ C.length := by
  unfold entriesv
  split
  · rw [entsS_len]; exact Nat.le_refl _
  · exact Nat.zero_le _
end Go.Proofs.YtancidbbkoeokaaGreat
