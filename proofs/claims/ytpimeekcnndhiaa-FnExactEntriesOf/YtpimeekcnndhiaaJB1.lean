/- Texts joined: MapS, KindMath, UserI, EntOkI, ListOkI, MapI, CardsI, EntriesI, EntriesOfELaw. -/
import Derived.Test.YtpimeekcnndhiaaCom
import Derived.Maps.OwnSet
import Derived.Maps.OwnOps
import Derived.Test.YtpimeekcnndhiaaListOk
import Derived.Test.YtpimeekcnndhiaaWhoS
import Derived.Test.YtpimeekcnndhiaaVis
import Derived.Test.YtpimeekcnndhiaaEntOk
import Derived.Test.YtpimeekcnndhiaaFindE
import Derived.Test.YtpimeekcnndhiaaEntAt
import Derived.Test.YtpimeekcnndhiaaCardOf
import Derived.Test.YtpimeekcnndhiaaEntriesS
import Derived.Laws.MakeOwn
import Derived.Test.YtpimeekcnndhiaaLawE
import Derived.Test.YtpimeekcnndhiaaHeldE
import Derived.Test.YtpimeekcnndhiaaOwnO
import Derived.Test.YtpimeekcnndhiaaMergeE
import Derived.Test.YtpimeekcnndhiaaCardM
/- Maps from texts to numbers, and sets of texts, that a call makes. -/
namespace Go.Proofs.Ytpimeekcnndhiaa
open Go.ChangeShapes Go.WideShapes Go.ChangeAt Go.RowKit Go.Maps

theorem lawS : Keyed Try.prog 9 := string_keyed Try.underlying9
theorem zeroN (w : World) : (zeroValue 3).run Try.prog w = .ok (.int .i64 0) w := by kernel_rfl
def keyS (s : ByteArray) : Lit := .string s.data.toList
theorem key_of {s : ByteArray} (h : s.size ≤ maxLen) : keyOf Try.prog 9 (.string s) = some (keyS s) := WideMaps.keyOf_string_mk Try.underlying9 h
theorem keyS_ne {a b : ByteArray} (h : ¬ a = b) : keyS a ≠ keyS b := by
  intro e
  apply h
  exact ba_ext (by simpa [keyS] using e)
theorem keyS_lit (a : ByteArray) : WideAt.IsKeyLit (keyS a) := trivial
/-- What the map D tells of each text. -/
def MapIs (D : DataW Unit) (M : ByteArray → Option Int) : Prop := IsMap D ∧ ∀ s, Maps.has D (keyS s) = (M s).isSome ∧ ∀ c, M s = some c → D.atKey (keyS s) (.lit (.int .i64 0)) = .lit (.int .i64 c)
/-- Block b is a map from texts to numbers of at most n entries. -/
def MapAt (w : World) (b n : Nat) (M : ByteArray → Option Int) : Prop := ∃ D : DataW Unit, w.ownsMap Try.prog 9 (plainElem Try.prog 3) b n D ∧ MapIs D M
def putM (M : ByteArray → Option Int) (s : ByteArray) (c : Int) : ByteArray → Option Int := fun t => if t = s then some c else M t
theorem MapIs.put {D : DataW Unit} {M : ByteArray → Option Int} (h : MapIs D M) (s : ByteArray) (c : Int) : MapIs (D.put (keyS s) (.lit (.int .i64 c))) (putM M s c) := by
  refine ⟨h.1.put _ _, fun t => ?_⟩
  by_cases e : t = s
  · subst e
    refine ⟨by rw [Maps.has_put_same h.1 (keyS_lit _)]; simp [putM], fun d hd => ?_⟩
    rw [Maps.atKey_put_same h.1 (keyS_lit _)]
    simp [putM] at hd
    rw [hd]
  · refine ⟨by rw [Maps.has_put_other (keyS_ne e), (h.2 t).1]; simp [putM, e], fun d hd => ?_⟩
    rw [Maps.atKey_put_other (keyS_ne e)]
    simp [putM, e] at hd
    exact (h.2 t).2 d hd
theorem mapIs_empty : MapIs (.map []) (fun _ => none) := ⟨isMap_empty, fun _ => ⟨rfl, fun _ h => by cases h⟩⟩
theorem mapAt_made (w : World) : MapAt (w.alloc (.map #[] 0)) w.heap.size 0 (fun _ => none) := ⟨.map [], World.ownsMap_made w _ _ _, mapIs_empty⟩
theorem MapAt.kept {w w' : World} {b n : Nat} {M : ByteArray → Option Int} {row : Option Nat} (h : MapAt w b n M) (hg : w.grownBy w' row) (hne : some b ≠ row) : MapAt w' b n M := by
  obtain ⟨D, ho, hs⟩ := h
  exact ⟨D, World.ownsMap.kept ho hg hne, hs⟩
theorem ownsMap_below {w w' : World} {k : TypeId} {R : Value → Option (DataW Unit × List MemPlace)} {b n : Nat} {D : DataW Unit} (h : w.ownsMap Try.prog k R b n D) (hb : Below w.heap.size w w') : w'.ownsMap Try.prog k R b n D :=
  World.ownsMap.kept h (row := none) ⟨hb.os, hb.tape, hb.output, hb.size, fun k hk _ => hb.block k hk⟩ (by simp)
theorem MapAt.below {w w' : World} {b n : Nat} {M : ByteArray → Option Int} (h : MapAt w b n M) (hb : Below w.heap.size w w') : MapAt w' b n M := by
  obtain ⟨D, ho, hs⟩ := h
  exact ⟨D, ownsMap_below ho hb, hs⟩
theorem MapAt.lt {w : World} {b n : Nat} {M : ByteArray → Option Int} (h : MapAt w b n M) : b < w.heap.size := by
  obtain ⟨D, ho, _⟩ := h
  exact World.ownsMap.lt ho
/-- The set D of texts. -/
def SetSIs (D : DataW Unit) (T : ByteArray → Bool) : Prop := IsMap D ∧ ∀ s, Maps.has D (keyS s) = T s
def SetSAt (w : World) (b n : Nat) (T : ByteArray → Bool) : Prop := ∃ D : DataW Unit, w.ownsMap Try.prog 9 (unitElem (H := Unit)) b n D ∧ SetSIs D T
def putT (T : ByteArray → Bool) (s : ByteArray) : ByteArray → Bool := fun t => decide (t = s) || T t
theorem SetSIs.put {D : DataW Unit} {T : ByteArray → Bool} (h : SetSIs D T) (s : ByteArray) (u : DataW Unit) : SetSIs (D.put (keyS s) u) (putT T s) := by
  refine ⟨h.1.put _ _, fun t => ?_⟩
  by_cases e : t = s
  · subst e
    rw [Maps.has_put_same h.1 (keyS_lit _)]; simp [putT]
  · rw [Maps.has_put_other (keyS_ne e), h.2 t]; simp [putT, e]
theorem setS_made (w : World) : SetSAt (w.alloc (.map #[] 0)) w.heap.size 0 (fun _ => false) := ⟨.map [], World.ownsMap_made w _ _ _, isMap_empty, fun _ => rfl⟩
theorem SetSAt.kept {w w' : World} {b n : Nat} {T : ByteArray → Bool} {row : Option Nat} (h : SetSAt w b n T) (hg : w.grownBy w' row) (hne : some b ≠ row) : SetSAt w' b n T := by
  obtain ⟨D, ho, hs⟩ := h
  exact ⟨D, World.ownsMap.kept ho hg hne, hs⟩
theorem SetSAt.below {w w' : World} {b n : Nat} {T : ByteArray → Bool} (h : SetSAt w b n T) (hb : Below w.heap.size w w') : SetSAt w' b n T := by
  obtain ⟨D, ho, hs⟩ := h
  exact ⟨D, ownsMap_below ho hb, hs⟩
theorem SetSAt.lt {w : World} {b n : Nat} {T : ByteArray → Bool} (h : SetSAt w b n T) : b < w.heap.size := by
  obtain ⟨D, ho, _⟩ := h
  exact World.ownsMap.lt ho
end Go.Proofs.Ytpimeekcnndhiaa

/- ListOk by the kinds of the entries so far: plain mathematics. -/
namespace Go.Proofs.Ytpimeekcnndhiaa
open Go.RowKit

/-- The kind of the first entry with a path. -/
def kindOf (L : List Ent) (p : ByteArray) : Option Int := (L.find? fun e => decide (e.path = p)).map Ent.kind
theorem findFrom_kind (L : List Ent) (p : ByteArray) (i : Nat) : (kindOf L p = none ∧ findFrom L p i = -1) ∨ ∃ (a : Nat) (e : Ent), kindOf L p = some e.kind ∧ findFrom L p i = ((i + a : Nat) : Int) ∧ L[a]? = some e ∧ e.path = p := by
  induction L generalizing i with
  | nil => exact .inl ⟨rfl, rfl⟩
  | cons e L ih =>
    rw [findFrom]
    by_cases h : e.path = p
    · exact .inr ⟨0, e, by simp [kindOf, h], by simp [h], rfl, h⟩
    · rw [if_neg h]
      have hk : kindOf (e :: L) p = kindOf L p := by simp [kindOf, h]
      rw [hk]
      rcases ih (i + 1) with h1 | ⟨a, e', h0, h1, h2, h3⟩
      · exact .inl h1
      · exact .inr ⟨a + 1, e', h0, by rw [h1]; congr 1; omega, by simpa using h2, h3⟩
theorem find_kind (L : List Ent) (p : ByteArray) : (kindOf L p = none ∧ findv L p = -1) ∨ ∃ (a : Nat) (e : Ent), kindOf L p = some e.kind ∧ findv L p = (a : Int) ∧ L[a]? = some e ∧ e.path = p := by
  rcases findFrom_kind L p 0 with h | ⟨a, e, h0, h1, h2, h3⟩
  · exact .inl h
  · exact .inr ⟨a, e, h0, by rw [findv, h1]; simp, h2, h3⟩
theorem fileAt_kind (L : List Ent) (p : ByteArray) : fileAt L p = decide (kindOf L p = some 0) := by
  rcases find_kind L p with ⟨h, h1⟩ | ⟨a, e, h, h1, h2, _⟩
  · rw [fileAt_none h1, h]; simp
  · rw [fileAt_some h1 h2, h]; simp
theorem findFrom_app (L M : List Ent) (p : ByteArray) (i : Nat) : findFrom (L ++ M) p i = if kindOf L p = none then findFrom M p (i + L.length) else findFrom L p i := by
  induction L generalizing i with
  | nil => simp [kindOf]
  | cons e L ih =>
    rw [List.cons_append, findFrom]
    by_cases h : e.path = p
    · simp [kindOf, h, findFrom]
    · have hk : kindOf (e :: L) p = kindOf L p := by simp [kindOf, h]
      rw [if_neg h, ih, hk]
      simp only [List.length_cons, findFrom, if_neg h]
      rw [show i + 1 + L.length = i + (L.length + 1) from by omega]
theorem find_self {L : List Ent} {i : Nat} {e : Ent} (he : L[i]? = some e) : findv L e.path = (i : Int) ↔ kindOf (L.take i) e.path = none := by
  have hlt : i < L.length := (List.getElem?_eq_some_iff.1 he).1
  have hL : L = L.take i ++ (e :: L.drop (i + 1)) := by
    have h1 := (List.getElem?_eq_some_iff.1 he).2
    conv => lhs; rw [← List.take_append_drop i L]
    rw [List.drop_eq_getElem_cons hlt, h1]
  have hl : (L.take i).length = i := by simp; omega
  constructor
  · intro h
    cases hk : kindOf (L.take i) e.path with
    | none => rfl
    | some c =>
      rw [findv, hL, findFrom_app, if_neg (by rw [hk]; simp)] at h
      rcases findFrom_kind (L.take i) e.path 0 with ⟨h0, _⟩ | ⟨a, e', _, h1, h2, _⟩
      · rw [h0] at hk; cases hk
      · have := (List.getElem?_eq_some_iff.1 h2).1
        rw [h1] at h
        omega
  · intro h
    rw [findv]
    conv => lhs; rw [hL]
    rw [findFrom_app, if_pos h, findFrom, if_pos rfl, hl]
    simp
theorem entAtOk_kind {L : List Ent} {i : Nat} {e : Ent} (he : L[i]? = some e) : entAtOk L i e = (entOkv e && decide (kindOf (L.take i) e.path = none) && (if e.kind = 3 then decide (kindOf (L.take i) e.link = some 0) else true)) := by
  rw [entAtOk, fileAt_kind]
  congr 2
  rw [decide_eq_decide]
  exact find_self he
theorem kindOf_snoc {L : List Ent} {i : Nat} {e : Ent} (he : L[i]? = some e) (hk : kindOf (L.take i) e.path = none) : kindOf (L.take (i + 1)) = putM (kindOf (L.take i)) e.path e.kind := by
  have hlt : i < L.length := (List.getElem?_eq_some_iff.1 he).1
  have h1 := (List.getElem?_eq_some_iff.1 he).2
  funext p
  rw [List.take_succ_eq_append_getElem hlt, h1]
  simp only [kindOf, putM, List.find?_append] at hk ⊢
  by_cases h : p = e.path
  · subst h
    simp at hk
    have : List.find? (fun e' => decide (e'.path = e.path)) (List.take i L) = none := by
      rw [List.find?_eq_none]
      intro x hx
      simpa using hk x hx
    simp [this]
  · have h' : ¬ e.path = p := fun x => h x.symm
    simp [h, h']
theorem kindOf_zero (L : List Ent) : kindOf (L.take 0) = fun _ => none := by
  funext p; simp [kindOf]
theorem entOk_kind (e : Ent) (h : entOkv e = true) : -9223372036854775808 ≤ e.kind ∧ e.kind ≤ 9223372036854775807 := by
  simp only [entOkv, Bool.and_eq_true] at h
  have h2 := h.2
  unfold kindOk at h2
  split at h2
  · omega
  · split at h2
    · omega
    · split at h2
      · omega
      · split at h2
        · omega
        · cases h2
end Go.Proofs.Ytpimeekcnndhiaa

/- Contracts of impl.upTo, impl.userOk, impl.symLinkOk. -/
namespace Go.Proofs.Ytpimeekcnndhiaa
open Go.ChangeShapes Go.WideShapes Go.ChangeAt Go.RowKit

theorem upTo_any (x b : Int) (w : World) : Calls Try.prog 78 #[.int .i64 x, .int .i64 b] w fun e w' => e = .returned (.bool (inB x 0 b)) ∧ w = w' := by
  by_cases h1 : 0 ≤ x
  · by_cases h2 : x ≤ b
    · go_enter Try.func78, Try.ntmps78
      go_wp2
      go_ret
      exact ⟨by simp [inB]; omega, rfl⟩
    · go_enter Try.func78, Try.ntmps78
      go_wp2
      go_ret
      exact ⟨by simp [inB]; omega, rfl⟩
  · go_enter Try.func78, Try.ntmps78
    go_wp2
    go_ret
    exact ⟨by simp [inB]; omega, rfl⟩
theorem whob_t {c : UInt8} (h : whob c = true) : ((97 : Int) ≤ ((c.toNat : Nat) : Int) ∧ ((c.toNat : Nat) : Int) ≤ 122) ∨ ((48 : Int) ≤ ((c.toNat : Nat) : Int) ∧ ((c.toNat : Nat) : Int) ≤ 57) ∨ ((c.toNat : Nat) : Int) = 95 := by
  simp [whob] at h; omega
theorem whob_f {c : UInt8} (h : whob c = false) : ((c.toNat : Nat) : Int) < 48 ∨ ((57 : Int) < ((c.toNat : Nat) : Int) ∧ ((c.toNat : Nat) : Int) < 97 ∧ ¬ ((c.toNat : Nat) : Int) = 95) ∨ (122 : Int) < ((c.toNat : Nat) : Int) := by
  simp [whob] at h; omega
set_option maxHeartbeats 800000 in
theorem userOk_impl (s : ByteArray) (w : World) (hs : s.size ≤ 4194304) :
    Calls Try.prog 79 #[.string s] w fun e w' => e = .returned (.bool (whov s)) ∧ Below w.heap.size w w' := by
  have HB : Hid (∀ k, (h : k < s.size) → whob s[k] = false → whov s = false) := Lib.hid (fun k h hc => by rw [whov, allB_bad h hc]; rfl)
  have HD : Hid (AllB whob s s.size → s.size ≤ 20 → whov s = true) := Lib.hid (fun h h2 => by rw [whov, h.done, decide_eq_true h2]; rfl)
  have HZ : Hid (20 < s.size → whov s = false) := Lib.hid (fun h => by rw [whov, decide_eq_false (by omega)]; simp)
  generalize whov s = r at HB HD HZ
  by_cases hz : 20 < s.size
  · have hz2 : (20 : Int) < (s.size : Int) := by omega
    have HF := Lib.hid (HZ.out hz)
    go_enter Try.func79, Try.ntmps79
    go_wp2_with fail
    go_ret
    exact ⟨ret_bool HF.out.symm, Below.refl _ _⟩
  have hz2 : ¬ (20 : Int) < (s.size : Int) := by omega
  have hz3 : s.size ≤ 20 := by omega
  clear HZ
  go_enter Try.func79, Try.ntmps79
  go_wp2_with fail
  go_loopw [3, 4, 10] (fun _ _ u wr => ∃ i : Nat, u = .int .i64 i ∧ i ≤ s.size ∧ AllB whob s i ∧ Below w.heap.size w wr) (fun _ _ u _ => s.size - (intOf u).toNat)
  case atStart => exact ⟨0, rfl, Nat.zero_le _, AllB.start _ _, Below.refl _ _⟩
  case round =>
    obtain ⟨i, rfl, hi, hr, hb⟩ := hrel
    have HR := Lib.hid hr
    have B := Lib.hid hb
    clear hr hb
    by_cases hlt : i < s.size
    · have hlt2 : (i : Int) < (s.size : Int) := by omega
      have h8 := (s[i]).toNat_lt
      cases hc : whob s[i] with
      | false =>
        have HF : Hid (r = false) := Lib.hid (HB.out i hlt hc)
        have hq := whob_f hc
        clear hc HB HD HR
        generalize hx : ((s[i].toNat : Nat) : Int) = x at hq h8
        have HX := Lib.hid hx
        rcases hq with h | ⟨h, h2, h3⟩ | h
        · have a1 : ¬ (97 : Int) ≤ x := by omega
          have a3 : ¬ (48 : Int) ≤ x := by omega
          have a5 : ¬ x = 95 := by omega
          rw [← hx] at a1 a3 a5
          have a6 : (!(((s[i].toNat : Nat) : Int) == 95)) = true := by simpa using a5
          clear hx h HX a5
          go_wp2_with fail
          go_ret
          exact ⟨ret_bool HF.out.symm, B.out⟩
        · have a1 : ¬ (97 : Int) ≤ x := by omega
          have a3 : (48 : Int) ≤ x := by omega
          have a4 : ¬ x ≤ 57 := by omega
          rw [← hx] at a1 a3 a4 h3
          have a6 : (!(((s[i].toNat : Nat) : Int) == 95)) = true := by simpa using h3
          clear hx h HX h3 h2
          go_wp2_with fail
          go_ret
          exact ⟨ret_bool HF.out.symm, B.out⟩
        · have a1 : (97 : Int) ≤ x := by omega
          have a2 : ¬ x ≤ 122 := by omega
          have a3 : (48 : Int) ≤ x := by omega
          have a4 : ¬ x ≤ 57 := by omega
          have a5 : ¬ x = 95 := by omega
          rw [← hx] at a1 a2 a3 a4 a5
          have a6 : (!(((s[i].toNat : Nat) : Int) == 95)) = true := by simpa using a5
          clear hx h HX a5
          go_wp2_with fail
          go_ret
          exact ⟨ret_bool HF.out.symm, B.out⟩
      | true =>
        have HS := Lib.hid (HR.out.step hlt hc)
        have hq := whob_t hc
        clear hc HB HD HR
        by_cases a1 : (97 : Int) ≤ ((s[i].toNat : Nat) : Int)
        · have a2 : ((s[i].toNat : Nat) : Int) ≤ 122 := by omega
          clear hq
          go_wp2_with fail
          go_roundw
          case rel => exact ⟨i + 1, by go_num, by omega, HS.out, B.out⟩
          case measure => simp [intOf]; omega
        · by_cases a4 : ((s[i].toNat : Nat) : Int) ≤ 57
          · have a3 : (48 : Int) ≤ ((s[i].toNat : Nat) : Int) := by omega
            clear hq
            go_wp2_with fail
            go_roundw
            case rel => exact ⟨i + 1, by go_num, by omega, HS.out, B.out⟩
            case measure => simp [intOf]; omega
          · have a3 : (48 : Int) ≤ ((s[i].toNat : Nat) : Int) := by omega
            have a5 : ((s[i].toNat : Nat) : Int) = 95 := by omega
            clear hq
            go_wp2_with fail
            go_roundw
            case rel => exact ⟨i + 1, by go_num, by omega, HS.out, B.out⟩
            case measure => simp [intOf]; omega
    · obtain rfl : i = s.size := by omega
      have hlt2 : ¬ (s.size : Int) < (s.size : Int) := by omega
      have HF : Hid (r = true) := Lib.hid (HD.out HR.out hz3)
      go_wp2_with fail
      go_ret
      exact ⟨ret_bool HF.out.symm, B.out⟩
theorem symLinkOk_impl (s : ByteArray) (w : World) (hs : s.size ≤ 4194304) :
    Calls Try.prog 72 #[.string s] w fun e w' => e = .returned (.bool (inB s.size 1 150 && signv s)) ∧ Below w.heap.size w w' := by
  have H1 := Lib.hid (fun w => visible_impl s w (by omega))
  generalize signv s = r at H1
  by_cases hz : (1 : Int) ≤ (s.size : Int)
  · by_cases hz2 : (s.size : Int) ≤ 150
    · have hq : inB (s.size : Int) 1 150 = true := inB_t (by omega)
      rw [hq, Bool.true_and]
      clear hq
      go_enter Try.func72, Try.ntmps72
      go_wp2_with fail
      refine (H1.out _).mono ?_
      rintro e _ ⟨rfl, rfl⟩
      go_wp2_with fail
      go_ret
      exact ⟨rfl, Below.refl _ _⟩
    · have hq : inB (s.size : Int) 1 150 = false := inB_f (by omega)
      rw [hq]
      go_enter Try.func72, Try.ntmps72
      go_wp2_with fail
      go_ret
      exact ⟨rfl, Below.refl _ _⟩
  · have hq : inB (s.size : Int) 1 150 = false := inB_f (by omega)
    rw [hq]
    go_enter Try.func72, Try.ntmps72
    go_wp2_with fail
    go_ret
    exact ⟨rfl, Below.refl _ _⟩
end Go.Proofs.Ytpimeekcnndhiaa

/- Contract of impl.EntryOk: the four kinds and what they share. -/
namespace Go.Proofs.Ytpimeekcnndhiaa
open Go.ChangeShapes Go.WideShapes Go.ChangeAt Go.RowKit Go.Deep

/-- What all kinds ask. -/
def fieldsv (e : Ent) : Bool := pathOkv e.path && inB e.mode 0 4095 && inB e.uid 0 4294967295 && inB e.gid 0 4294967295 && inB e.time 0 99999999999 && whov e.user && whov e.group
set_option maxHeartbeats 3200000 in
theorem fieldsOk_impl (k : Int) (p l : ByteArray) (m u g t : Int) (us gr b : ByteArray) (w : World) (hp : p.size ≤ 4194304) (hus : us.size ≤ 4194304) (hgr : gr.size ≤ 4194304) :
    Calls Try.prog 71 #[.agg #[.int .i64 k, .string p, .string l, .int .i64 m, .int .i64 u, .int .i64 g, .int .i64 t, .string us, .string gr, .string b]] w fun e w' => e = .returned (.bool (fieldsv ⟨k, p, l, m, u, g, t, us, gr, b⟩)) ∧ Below w.heap.size w w' := by
  have H1 := Lib.hid (fun w => pathOk_impl p w (by omega))
  have H2 := Lib.hid (fun w => upTo_any m 4095 w)
  have H3 := Lib.hid (fun w => upTo_any u 4294967295 w)
  have H4 := Lib.hid (fun w => upTo_any g 4294967295 w)
  have H5 := Lib.hid (fun w => upTo_any t 99999999999 w)
  have H6 := Lib.hid (fun w => userOk_impl us w hus)
  have H7 := Lib.hid (fun w => userOk_impl gr w hgr)
  have HE : Hid (fieldsv ⟨k, p, l, m, u, g, t, us, gr, b⟩ = (pathOkv p && inB m 0 4095 && inB u 0 4294967295 && inB g 0 4294967295 && inB t 0 99999999999 && whov us && whov gr)) := Lib.hid rfl
  generalize fieldsv ⟨k, p, l, m, u, g, t, us, gr, b⟩ = r at HE
  generalize pathOkv p = b1 at H1 HE
  generalize inB m 0 4095 = b2 at H2 HE
  generalize inB u 0 4294967295 = b3 at H3 HE
  generalize inB g 0 4294967295 = b4 at H4 HE
  generalize inB t 0 99999999999 = b5 at H5 HE
  generalize whov us = b6 at H6 HE
  generalize whov gr = b7 at H7 HE
  clear hp hus hgr
  go_enter Try.func71, Try.ntmps71
  go_wp2_with fail
  refine (H1.out _).mono ?_
  rintro e w1 ⟨rfl, hb⟩
  obtain ⟨k1, bb, z1⟩ := one_new (e1 := ⟨k, p, l, m, u, g, t, us, gr, b⟩) hb
  have E := Lib.hid k1
  have B := Lib.hid bb
  clear hb k1 bb
  obtain ⟨c0, c1, c2, c3, c4, c5, c6, c7, c8, c9⟩ := E.out.zero
  cases b1 with
  | false =>
    go_wp2_with fail
    go_ret
    exact ⟨ret_bool (by rw [HE.out]; simp), B.out⟩
  | true =>
    go_wp2_with fail
    refine (H2.out _).mono ?_
    rintro e _ ⟨rfl, rfl⟩
    cases b2 with
    | false =>
      go_wp2_with fail
      go_ret
      exact ⟨ret_bool (by rw [HE.out]; simp), B.out⟩
    | true =>
      go_wp2_with fail
      refine (H3.out _).mono ?_
      rintro e _ ⟨rfl, rfl⟩
      cases b3 with
      | false =>
        go_wp2_with fail
        go_ret
        exact ⟨ret_bool (by rw [HE.out]; simp), B.out⟩
      | true =>
        go_wp2_with fail
        refine (H4.out _).mono ?_
        rintro e _ ⟨rfl, rfl⟩
        cases b4 with
        | false =>
          go_wp2_with fail
          go_ret
          exact ⟨ret_bool (by rw [HE.out]; simp), B.out⟩
        | true =>
          go_wp2_with fail
          refine (H5.out _).mono ?_
          rintro e _ ⟨rfl, rfl⟩
          cases b5 with
          | false =>
            go_wp2_with fail
            go_ret
            exact ⟨ret_bool (by rw [HE.out]; simp), B.out⟩
          | true =>
            go_wp2_with fail
            refine (H6.out _).mono ?_
            rintro e w6 ⟨rfl, hb⟩
            replace E := Lib.hid (E.out.below hb (by omega))
            replace B := Lib.hid (btE B.out hb)
            replace z1 := Nat.le_trans z1 hb.size
            clear hb c0 c1 c2 c3 c4 c5 c6 c7 c8 c9
            obtain ⟨c0, c1, c2, c3, c4, c5, c6, c7, c8, c9⟩ := E.out.zero
            cases b6 with
            | false =>
              go_wp2_with fail
              go_ret
              exact ⟨ret_bool (by rw [HE.out]; simp), B.out⟩
            | true =>
              go_wp2_with fail
              refine (H7.out _).mono ?_
              rintro e w7 ⟨rfl, hb⟩
              replace E := Lib.hid (E.out.below hb (by omega))
              replace B := Lib.hid (btE B.out hb)
              replace z1 := Nat.le_trans z1 hb.size
              clear hb c0 c1 c2 c3 c4 c5 c6 c7 c8 c9
              obtain ⟨c0, c1, c2, c3, c4, c5, c6, c7, c8, c9⟩ := E.out.zero
              cases b7 with
              | false =>
                go_wp2_with fail
                go_ret
                exact ⟨ret_bool (by rw [HE.out]; simp), B.out⟩
              | true =>
                go_wp2_with fail
                go_ret
                exact ⟨ret_bool (by rw [HE.out]; simp), B.out⟩
set_option maxHeartbeats 3200000 in
theorem fileOk_impl (k : Int) (p l : ByteArray) (m u g t : Int) (us gr b : ByteArray) (w : World) (hp : p.size ≤ 4194304) (hus : us.size ≤ 4194304) (hgr : gr.size ≤ 4194304) :
    Calls Try.prog 57 #[.agg #[.int .i64 k, .string p, .string l, .int .i64 m, .int .i64 u, .int .i64 g, .int .i64 t, .string us, .string gr, .string b]] w fun e w' => e = .returned (.bool (fieldsv ⟨k, p, l, m, u, g, t, us, gr, b⟩ && (decide (l.size = 0) && decide (b.size ≤ 3000)))) ∧ Below w.heap.size w w' := by
  have H1 := Lib.hid (fun w => fieldsOk_impl k p l m u g t us gr b w hp hus hgr)
  generalize fieldsv ⟨k, p, l, m, u, g, t, us, gr, b⟩ = b1 at H1 ⊢
  go_enter Try.func57, Try.ntmps57
  go_wp2_with fail
  refine (H1.out _).mono ?_
  rintro e w1 ⟨rfl, hb⟩
  obtain ⟨k1, bb, z1⟩ := one_new (e1 := ⟨k, p, l, m, u, g, t, us, gr, b⟩) hb
  have E := Lib.hid k1
  have B := Lib.hid bb
  clear hb k1 bb
  obtain ⟨c0, c1, c2, c3, c4, c5, c6, c7, c8, c9⟩ := E.out.zero
  cases b1 with
  | false =>
    go_wp2_with fail
    go_ret
    exact ⟨ret_bool (by simp), B.out⟩
  | true =>
    by_cases ql : l.size = 0
    · have ql2 := empty_t ql
      by_cases qb : b.size ≤ 3000
      · have qb2 : (b.size : Int) ≤ 3000 := by omega
        go_wp2_with fail
        go_ret
        exact ⟨ret_bool (by simp [ql, qb]), B.out⟩
      · have qb2 : ¬ (b.size : Int) ≤ 3000 := by omega
        go_wp2_with fail
        go_ret
        exact ⟨ret_bool (by rw [decide_eq_false qb]; simp; try omega), B.out⟩
    · have ql2 := empty_f ql
      go_wp2_with fail
      go_ret
      exact ⟨ret_bool (by simp [ql]), B.out⟩
set_option maxHeartbeats 3200000 in
theorem dirOk_impl (k : Int) (p l : ByteArray) (m u g t : Int) (us gr b : ByteArray) (w : World) (hp : p.size ≤ 4194304) (hus : us.size ≤ 4194304) (hgr : gr.size ≤ 4194304) :
    Calls Try.prog 58 #[.agg #[.int .i64 k, .string p, .string l, .int .i64 m, .int .i64 u, .int .i64 g, .int .i64 t, .string us, .string gr, .string b]] w fun e w' => e = .returned (.bool (fieldsv ⟨k, p, l, m, u, g, t, us, gr, b⟩ && (decide (l.size = 0) && decide (b.size = 0)))) ∧ Below w.heap.size w w' := by
  have H1 := Lib.hid (fun w => fieldsOk_impl k p l m u g t us gr b w hp hus hgr)
  generalize fieldsv ⟨k, p, l, m, u, g, t, us, gr, b⟩ = b1 at H1 ⊢
  go_enter Try.func58, Try.ntmps58
  go_wp2_with fail
  refine (H1.out _).mono ?_
  rintro e w1 ⟨rfl, hb⟩
  obtain ⟨k1, bb, z1⟩ := one_new (e1 := ⟨k, p, l, m, u, g, t, us, gr, b⟩) hb
  have E := Lib.hid k1
  have B := Lib.hid bb
  clear hb k1 bb
  obtain ⟨c0, c1, c2, c3, c4, c5, c6, c7, c8, c9⟩ := E.out.zero
  cases b1 with
  | false =>
    go_wp2_with fail
    go_ret
    exact ⟨ret_bool (by simp), B.out⟩
  | true =>
    by_cases ql : l.size = 0
    · have ql2 := empty_t ql
      by_cases qb : b.size = 0
      · have qb2 := empty_t qb
        go_wp2_with fail
        go_ret
        exact ⟨ret_bool (by simp [ql, qb]), B.out⟩
      · have qb2 := empty_f qb
        go_wp2_with fail
        go_ret
        exact ⟨ret_bool (by simp [qb]), B.out⟩
    · have ql2 := empty_f ql
      go_wp2_with fail
      go_ret
      exact ⟨ret_bool (by simp [ql]), B.out⟩
set_option maxHeartbeats 3200000 in
theorem symOk_impl (k : Int) (p l : ByteArray) (m u g t : Int) (us gr b : ByteArray) (w : World) (hp : p.size ≤ 4194304) (hl : l.size ≤ 4194304) (hus : us.size ≤ 4194304) (hgr : gr.size ≤ 4194304) :
    Calls Try.prog 59 #[.agg #[.int .i64 k, .string p, .string l, .int .i64 m, .int .i64 u, .int .i64 g, .int .i64 t, .string us, .string gr, .string b]] w fun e w' => e = .returned (.bool (fieldsv ⟨k, p, l, m, u, g, t, us, gr, b⟩ && (inB l.size 1 150 && signv l && decide (b.size = 0)))) ∧ Below w.heap.size w w' := by
  have H1 := Lib.hid (fun w => fieldsOk_impl k p l m u g t us gr b w hp hus hgr)
  have H2 := Lib.hid (fun w => symLinkOk_impl l w hl)
  generalize (inB (l.size : Int) 1 150 && signv l) = b2 at H2 ⊢
  generalize fieldsv ⟨k, p, l, m, u, g, t, us, gr, b⟩ = b1 at H1 ⊢
  go_enter Try.func59, Try.ntmps59
  go_wp2_with fail
  refine (H1.out _).mono ?_
  rintro e w1 ⟨rfl, hb⟩
  obtain ⟨k1, bb, z1⟩ := one_new (e1 := ⟨k, p, l, m, u, g, t, us, gr, b⟩) hb
  have E := Lib.hid k1
  have B := Lib.hid bb
  clear hb k1 bb
  obtain ⟨c0, c1, c2, c3, c4, c5, c6, c7, c8, c9⟩ := E.out.zero
  cases b1 with
  | false =>
    go_wp2_with fail
    go_ret
    exact ⟨ret_bool (by simp), B.out⟩
  | true =>
    go_wp2_with fail
    refine (H2.out _).mono ?_
    rintro e w2 ⟨rfl, hb⟩
    replace E := Lib.hid (E.out.below hb (by omega))
    replace B := Lib.hid (btE B.out hb)
    replace z1 := Nat.le_trans z1 hb.size
    clear hb c0 c1 c2 c3 c4 c5 c6 c7 c8 c9
    obtain ⟨c0, c1, c2, c3, c4, c5, c6, c7, c8, c9⟩ := E.out.zero
    cases b2 with
    | false =>
      go_wp2_with fail
      go_ret
      exact ⟨ret_bool (by simp), B.out⟩
    | true =>
      by_cases qb : b.size = 0
      · have qb2 := empty_t qb
        go_wp2_with fail
        go_ret
        exact ⟨ret_bool (by simp [qb]), B.out⟩
      · have qb2 := empty_f qb
        go_wp2_with fail
        go_ret
        exact ⟨ret_bool (by simp [qb]), B.out⟩
set_option maxHeartbeats 3200000 in
theorem hardOk_impl (k : Int) (p l : ByteArray) (m u g t : Int) (us gr b : ByteArray) (w : World) (hp : p.size ≤ 4194304) (hl : l.size ≤ 4194304) (hus : us.size ≤ 4194304) (hgr : gr.size ≤ 4194304) :
    Calls Try.prog 60 #[.agg #[.int .i64 k, .string p, .string l, .int .i64 m, .int .i64 u, .int .i64 g, .int .i64 t, .string us, .string gr, .string b]] w fun e w' => e = .returned (.bool (fieldsv ⟨k, p, l, m, u, g, t, us, gr, b⟩ && (pathOkv l && decide (l ≠ p) && decide (b.size = 0)))) ∧ Below w.heap.size w w' := by
  have H1 := Lib.hid (fun w => fieldsOk_impl k p l m u g t us gr b w hp hus hgr)
  have H2 := Lib.hid (fun w => pathOk_impl l w (by omega))
  generalize pathOkv l = b2 at H2 ⊢
  generalize fieldsv ⟨k, p, l, m, u, g, t, us, gr, b⟩ = b1 at H1 ⊢
  go_enter Try.func60, Try.ntmps60
  go_wp2_with fail
  refine (H1.out _).mono ?_
  rintro e w1 ⟨rfl, hb⟩
  obtain ⟨k1, bb, z1⟩ := one_new (e1 := ⟨k, p, l, m, u, g, t, us, gr, b⟩) hb
  have E := Lib.hid k1
  have B := Lib.hid bb
  clear hb k1 bb
  obtain ⟨c0, c1, c2, c3, c4, c5, c6, c7, c8, c9⟩ := E.out.zero
  cases b1 with
  | false =>
    go_wp2_with fail
    go_ret
    exact ⟨ret_bool (by simp), B.out⟩
  | true =>
    go_wp2_with fail
    refine (H2.out _).mono ?_
    rintro e w2 ⟨rfl, hb⟩
    replace E := Lib.hid (E.out.below hb (by omega))
    replace B := Lib.hid (btE B.out hb)
    replace z1 := Nat.le_trans z1 hb.size
    clear hb c0 c1 c2 c3 c4 c5 c6 c7 c8 c9
    obtain ⟨c0, c1, c2, c3, c4, c5, c6, c7, c8, c9⟩ := E.out.zero
    cases b2 with
    | false =>
      go_wp2_with fail
      go_ret
      exact ⟨ret_bool (by simp), B.out⟩
    | true =>
      by_cases ql : l = p
      · have ql2 := baE_eq ql
        go_wp2_with fail
        go_ret
        exact ⟨ret_bool (by simp [ql]), B.out⟩
      · have ql2 := baE_ne ql
        by_cases qb : b.size = 0
        · have qb2 := empty_t qb
          go_wp2_with fail
          go_ret
          exact ⟨ret_bool (by simp [ql, qb]), B.out⟩
        · have qb2 := empty_f qb
          go_wp2_with fail
          go_ret
          exact ⟨ret_bool (by simp [qb]), B.out⟩
theorem entOkv_eq (e : Ent) : entOkv e = (fieldsv e && kindOk e.kind e.path e.link e.body) := rfl
set_option maxHeartbeats 3200000 in
theorem entryOk_impl (k : Int) (p l : ByteArray) (m u g t : Int) (us gr b : ByteArray) (w : World) (hp : p.size ≤ 4194304) (hl : l.size ≤ 4194304) (hus : us.size ≤ 4194304) (hgr : gr.size ≤ 4194304) :
    Calls Try.prog 42 #[.agg #[.int .i64 k, .string p, .string l, .int .i64 m, .int .i64 u, .int .i64 g, .int .i64 t, .string us, .string gr, .string b]] w fun e w' => e = .returned (.bool (entOkv ⟨k, p, l, m, u, g, t, us, gr, b⟩)) ∧ Below w.heap.size w w' := by
  have H0 := Lib.hid (fun w => fileOk_impl k p l m u g t us gr b w hp hus hgr)
  have H1 := Lib.hid (fun w => dirOk_impl k p l m u g t us gr b w hp hus hgr)
  have H2 := Lib.hid (fun w => symOk_impl k p l m u g t us gr b w hp hl hus hgr)
  have H3 := Lib.hid (fun w => hardOk_impl k p l m u g t us gr b w hp hl hus hgr)
  have HE : Hid (entOkv ⟨k, p, l, m, u, g, t, us, gr, b⟩ = (fieldsv ⟨k, p, l, m, u, g, t, us, gr, b⟩ && kindOk k p l b)) := Lib.hid rfl
  have HK : Hid (kindOk k p l b = if k = 0 then decide (l.size = 0) && decide (b.size ≤ 3000) else if k = 1 then decide (l.size = 0) && decide (b.size = 0) else if k = 2 then inB l.size 1 150 && signv l && decide (b.size = 0) else if k = 3 then pathOkv l && decide (l ≠ p) && decide (b.size = 0) else false) := Lib.hid rfl
  generalize hk0 : (decide (l.size = 0) && decide (b.size ≤ 3000)) = r0 at H0 HK
  generalize hk1 : (decide (l.size = 0) && decide (b.size = 0)) = r1 at H1 HK
  generalize hk2 : (inB (l.size : Int) 1 150 && signv l && decide (b.size = 0)) = r2 at H2 HK
  generalize hk3 : (pathOkv l && decide (l ≠ p) && decide (b.size = 0)) = r3 at H3 HK
  clear hk0 hk1 hk2 hk3
  generalize kindOk k p l b = rk at HE HK
  generalize entOkv ⟨k, p, l, m, u, g, t, us, gr, b⟩ = r at HE
  generalize fieldsv ⟨k, p, l, m, u, g, t, us, gr, b⟩ = b1 at HE H0 H1 H2 H3
  clear hp hl hus hgr
  by_cases q0 : k = 0
  · have HF : Hid (r = (b1 && r0)) := Lib.hid (by rw [HE.out, HK.out]; simp [q0])
    subst q0
    clear HE HK
    go_enter Try.func42, Try.ntmps42
    go_wp2_with fail
    refine (H0.out _).mono ?_
    rintro e w1 ⟨rfl, hb⟩
    go_wp2_with fail
    go_ret
    exact ⟨ret_bool HF.out.symm, (((Below.refl _ w).alloc (Nat.le_refl _) _).alloc (by simp) _).trans (hb.mono (by simp; omega))⟩
  by_cases q1 : k = 1
  · have HF : Hid (r = (b1 && r1)) := Lib.hid (by rw [HE.out, HK.out]; simp [q1])
    subst q1
    clear HE HK
    go_enter Try.func42, Try.ntmps42
    go_wp2_with fail
    refine (H1.out _).mono ?_
    rintro e w1 ⟨rfl, hb⟩
    go_wp2_with fail
    go_ret
    exact ⟨ret_bool HF.out.symm, (((Below.refl _ w).alloc (Nat.le_refl _) _).alloc (by simp) _).trans (hb.mono (by simp; omega))⟩
  by_cases q2 : k = 2
  · have HF : Hid (r = (b1 && r2)) := Lib.hid (by rw [HE.out, HK.out]; simp [q2])
    subst q2
    clear HE HK
    go_enter Try.func42, Try.ntmps42
    go_wp2_with fail
    refine (H2.out _).mono ?_
    rintro e w1 ⟨rfl, hb⟩
    go_wp2_with fail
    go_ret
    exact ⟨ret_bool HF.out.symm, (((Below.refl _ w).alloc (Nat.le_refl _) _).alloc (by simp) _).trans (hb.mono (by simp; omega))⟩
  by_cases q3 : k = 3
  · have HF : Hid (r = (b1 && r3)) := Lib.hid (by rw [HE.out, HK.out]; simp [q3])
    subst q3
    clear HE HK
    go_enter Try.func42, Try.ntmps42
    go_wp2_with fail
    refine (H3.out _).mono ?_
    rintro e w1 ⟨rfl, hb⟩
    go_wp2_with fail
    go_ret
    exact ⟨ret_bool HF.out.symm, (((Below.refl _ w).alloc (Nat.le_refl _) _).alloc (by simp) _).trans (hb.mono (by simp; omega))⟩
  have HF : Hid (r = false) := Lib.hid (by rw [HE.out, HK.out, if_neg q0, if_neg q1, if_neg q2, if_neg q3]; simp)
  clear HE HK
  go_enter Try.func42, Try.ntmps42
  go_wp2_with fail
  go_ret
  exact ⟨ret_bool HF.out.symm, ((Below.refl _ w).alloc (Nat.le_refl _) _).alloc (by simp) _⟩
end Go.Proofs.Ytpimeekcnndhiaa

/- Contract of impl.ListOk. -/
namespace Go.Proofs.Ytpimeekcnndhiaa
open Go.ChangeShapes Go.WideShapes Go.ChangeAt Go.RowKit Go.Deep Go.Maps

theorem listOk_long {L : List Ent} (h : 30 < L.length) : listOkv L = false := by
  rw [listOkv, decide_eq_false (by omega)]; simp
set_option maxHeartbeats 1600000 in
theorem listOk_impl (L : List Ent) (n g cap : Nat) (w : World) (hn : n = L.length) (hm : n ≤ 4194304) (hg : g < w.heap.size) (hsm : SmallL L) (h1 : RowE w g L) :
    Calls Try.prog 30 #[.slice (some ⟨g, 0, none⟩) n cap] w fun e w' => e = .returned (.bool (listOkv L)) ∧ Below w.heap.size w w' := by
  have H1 := Lib.hid h1
  have HG : Hid (∀ i, i < n → ∃ e, L[i]? = some e ∧ esz e ≤ 4194304) := Lib.hid (fun i hi => by obtain ⟨e, he⟩ := getE' (L := L) (i := i) (by omega); exact ⟨e, he, hsm.get he⟩)
  have HBad : Hid (∀ i e, L[i]? = some e → entAtOk L i e = false → listOkv L = false) := Lib.hid (fun i e he hk => listOk_bad he hk)
  have HDone : Hid (OksTo L n → n ≤ 30 → listOkv L = true) := Lib.hid (by rw [hn]; intro h h2; rw [listOk_done h]; simpa using h2)
  have HLong : Hid (30 < n → listOkv L = false) := Lib.hid (by rw [hn]; exact listOk_long)
  generalize listOkv L = r at HBad HDone HLong
  clear h1 hn hsm
  by_cases h30 : 30 < n
  · have h30' : (30 : Int) < (n : Int) := by omega
    have HX := Lib.hid (HLong.out h30)
    go_enter Try.func30, Try.ntmps30
    go_wp2_with fail
    go_ret
    exact ⟨ret_bool HX.out.symm, Below.refl _ _⟩
  have h30' : ¬ (30 : Int) < (n : Int) := by omega
  have hmm := @run_makeMap Try.prog
  go_enter Try.func30, Try.ntmps30
  go_wp2_with fail
  go_loopw [5, 6, 7, 8, 9, 16] (fun _ _ _ _ _ u wr => ∃ i : Nat, u = .int .i64 i ∧ i ≤ n ∧ OksTo L i ∧ MapAt wr w.heap.size i (kindOf (L.take i)) ∧ Below w.heap.size w wr) (fun _ _ _ _ _ u _ => n - (intOf u).toNat)
  case atStart => exact ⟨0, rfl, Nat.zero_le _, fun j hj => by omega, by rw [kindOf_zero]; exact mapAt_made w, (Below.refl _ _).alloc (Nat.le_refl _) _⟩
  case round =>
    obtain ⟨i, rfl, hi, hr, hmap, hb⟩ := hrel
    have HR := Lib.hid hr
    have B := Lib.hid hb
    have HMp := Lib.hid hmap
    have zm := hmap.lt
    clear hr hb hmap hmm
    by_cases hlt : i < n
    · have hlt2 : (i : Int) < (n : Int) := by omega
      obtain ⟨e, he, hz⟩ := HG.out i hlt
      have R := Lib.hid (H1.out.below B.out hg)
      obtain ⟨c0, c1, c2, c3, c4, c5, c6, c7, c8, c9⟩ := R.out.ten he
      have HBi := Lib.hid (HBad.out i e he)
      have HSi := Lib.hid (fun hk => HR.out.step he hk)
      have HA := Lib.hid (entAtOk_kind he)
      have HK := Lib.hid (fun h => kindOf_snoc he h)
      clear he HBad HG HR
      have hsz := small_parts hz
      generalize kindOf (L.take i) = M at HMp HA HK
      obtain ⟨k, p, l, m, u, g0, t, us, gr, b⟩ := e
      have HO := Lib.hid (fun w => entryOk_impl k p l m u g0 t us gr b w hsz.1 hsz.2.1 hsz.2.2.1 hsz.2.2.2.1)
      dsimp only at hsz
      have kp : p.size ≤ maxLen := by have := hsz.1; simp only [maxLen]; omega
      have kl : l.size ≤ maxLen := by have := hsz.2.1; simp only [maxLen]; omega
      have HKd := Lib.hid (entOk_kind ⟨k, p, l, m, u, g0, t, us, gr, b⟩)
      generalize entAtOk L i ⟨k, p, l, m, u, g0, t, us, gr, b⟩ = ra at HA HBi HSi
      generalize entOkv ⟨k, p, l, m, u, g0, t, us, gr, b⟩ = b1 at HA HO HKd
      dsimp only at HA HK HKd
      clear hsz hz
      have zr : g < wr.heap.size := by have := B.out.size; omega
      obtain ⟨D, ho, hD⟩ := HMp.out
      have OM := Lib.hid ho
      have HD := Lib.hid hD
      clear ho hD HMp
      have HP := Lib.hid (HD.out.2 p).1
      have HLk := Lib.hid (HD.out.2 l)
      cases hp : M p with
      | some x =>
        have hh : Maps.has D (keyS p) = true := by rw [HP.out, hp]; rfl
        have HX : Hid (r = false) := Lib.hid (HBi.out (by rw [HA.out, hp]; simp))
        clear HA HK HP HLk HBi HSi HO HD hp
        go_wp2_with (at_lookup; refine wpList_lookup_own_ok_int _ rfl _ _ 71 rfl 9 3 .i64 lawS Try.underlying71 Try.underlying3 (zeroN _) w.heap.size i D rfl (OM.out.alloc _) _ _ rfl (key_of kp) ?_; intro c _ _)
        go_ret
        exact ⟨ret_bool HX.out.symm, B.out.alloc B.out.size _⟩
      | none =>
        have hh : Maps.has D (keyS p) = false := by rw [HP.out, hp]; rfl
        have HN := Lib.hid (HK.out hp)
        have HA2 : Hid (ra = (b1 && (if k = 3 then decide (M l = some 0) else true))) := Lib.hid (by rw [HA.out, hp]; simp)
        clear HA HK HP hp
        go_wp2_with (at_lookup; refine wpList_lookup_own_ok_int _ rfl _ _ 71 rfl 9 3 .i64 lawS Try.underlying71 Try.underlying3 (zeroN _) w.heap.size i D rfl (OM.out.alloc _) _ _ rfl (key_of kp) ?_; intro c _ _)
        refine (HO.out _).mono ?_
        rintro e w1 ⟨rfl, hb⟩
        have O1 := Lib.hid (ownsMap_below (OM.out.alloc _) hb)
        obtain ⟨k1, bb, z1⟩ := one_new (e1 := ⟨k, p, l, m, u, g0, t, us, gr, b⟩) hb
        have E1 := Lib.hid k1
        have B1 := Lib.hid (btE B.out bb)
        clear hb k1 bb c0 c1 c2 c3 c4 c5 c6 c7 c8 c9 R B HO OM hh
        obtain ⟨c0, c1, c2, c3, c4, c5, c6, c7, c8, c9⟩ := E1.out.zero
        have hsz1 := B1.out.size
        cases b1 with
        | false =>
          go_wp2_with fail
          go_ret
          exact ⟨ret_bool (HBi.out (by rw [HA2.out]; simp)).symm, B1.out⟩
        | true =>
          by_cases hk : k = 3
          · subst hk
            cases hl : M l with
            | none =>
              have hh : Maps.has D (keyS l) = false := by rw [HLk.out.1, hl]; rfl
              have HX : Hid (r = false) := Lib.hid (HBi.out (by rw [HA2.out, hl]; simp))
              clear HA2 HBi HSi HLk hl HN
              go_wp2_with (at_lookup; refine wpList_lookup_own_ok_int _ rfl _ _ 71 rfl 9 3 .i64 lawS Try.underlying71 Try.underlying3 (zeroN _) w.heap.size i D rfl O1.out _ _ rfl (key_of kl) ?_; intro c' _ _)
              go_ret
              exact ⟨ret_bool HX.out.symm, B1.out⟩
            | some x =>
              have hh : Maps.has D (keyS l) = true := by rw [HLk.out.1, hl]; rfl
              have HT := Lib.hid (HLk.out.2 x hl)
              by_cases hx : x = 0
              · subst hx
                have HS := Lib.hid (HSi.out (by rw [HA2.out, hl]; simp))
                clear HA2 HBi HSi HLk hl
                go_wp2_with (first | (at_lookup; refine wpList_lookup_own_ok_int _ rfl _ _ 71 rfl 9 3 .i64 lawS Try.underlying71 Try.underlying3 (zeroN _) w.heap.size i D rfl O1.out _ _ rfl (key_of kl) ?_; intro c' hat _; obtain rfl : c' = 0 := (by have := hat.symm.trans HT.out; simpa using this); clear hat) | (at_mapUpdate; refine wpList_mapUpdate_own _ rfl _ _ _ 71 rfl 9 3 lawS Try.underlying71 _ w.heap.size i D rfl O1.out (by simp only [maxLen]; omega) _ _ _ rfl rfl (key_of kp) _ [] (plainElem_int Try.underlying3 (by decide)) ?_; intro w2 hown2 hgrow2))
                have HM2 : Hid (MapAt w2 w.heap.size (i + 1) (kindOf (L.take (i + 1)))) := Lib.hid (by rw [HN.out]; exact ⟨_, hown2, HD.out.put p 3⟩)
                have B2 : Hid (Below w.heap.size w w2) := Lib.hid (B1.out.grown hgrow2 hsz1 (fun b hb => by cases hb; exact Nat.le_refl _))
                clear hown2 hgrow2 HN HT hh
                go_wp2_with fail
                go_roundw
                case rel => exact ⟨i + 1, by go_num, by omega, HS.out, HM2.out, B2.out⟩
                case measure => simp [intOf]; omega
              · have HX : Hid (r = false) := Lib.hid (HBi.out (by rw [HA2.out, hl]; simp [hx]))
                have hx2 : (x != 0) = true := by simpa using hx
                clear HA2 HBi HSi HLk hl HN hx
                go_wp2_with (at_lookup; refine wpList_lookup_own_ok_int _ rfl _ _ 71 rfl 9 3 .i64 lawS Try.underlying71 Try.underlying3 (zeroN _) w.heap.size i D rfl O1.out _ _ rfl (key_of kl) ?_; intro c' hat _; obtain rfl : c' = x := (by have := hat.symm.trans HT.out; simpa using this); clear hat)
                go_ret
                exact ⟨ret_bool HX.out.symm, B1.out⟩
          · have HS := Lib.hid (HSi.out (by rw [HA2.out]; simp [hk]))
            have hk2 : (k == 3) = false := by simpa using hk
            have hk3 : decide (k = 3) = false := by simpa using hk
            have hwk : (Lit.int .i64 k).wf = true := WalkArith.wf_i64 (HKd.out rfl)
            clear HA2 HBi HSi HLk hk
            go_wp2_with (first | (at_lookup; refine wpList_lookup_own_ok_int _ rfl _ _ 71 rfl 9 3 .i64 lawS Try.underlying71 Try.underlying3 (zeroN _) w.heap.size i D rfl O1.out _ _ rfl (key_of kl) ?_; intro c' _ _) | (at_mapUpdate; refine wpList_mapUpdate_own _ rfl _ _ _ 71 rfl 9 3 lawS Try.underlying71 _ w.heap.size i D rfl O1.out (by simp only [maxLen]; omega) _ _ _ rfl rfl (key_of kp) _ [] (plainElem_int Try.underlying3 hwk) ?_; intro w2 hown2 hgrow2))
            have HM2 : Hid (MapAt w2 w.heap.size (i + 1) (kindOf (L.take (i + 1)))) := Lib.hid (by rw [HN.out]; exact ⟨_, hown2, HD.out.put p k⟩)
            have B2 : Hid (Below w.heap.size w w2) := Lib.hid (B1.out.grown hgrow2 hsz1 (fun b hb => by cases hb; exact Nat.le_refl _))
            clear hown2 hgrow2 HN
            go_wp2_with fail
            go_roundw
            case rel => exact ⟨i + 1, by go_num, by omega, HS.out, HM2.out, B2.out⟩
            case measure => simp [intOf]; omega
    · obtain rfl : i = n := by omega
      have hlt2 : ¬ (i : Int) < (i : Int) := by omega
      have HFin := Lib.hid (HDone.out HR.out (by omega))
      go_wp2_with fail
      go_ret
      exact ⟨ret_bool HFin.out.symm, B.out⟩
end Go.Proofs.Ytpimeekcnndhiaa

/- Maps from numbers to numbers that a call makes: how often each number has come. -/
namespace Go.Proofs.Ytpimeekcnndhiaa
open Go.ChangeShapes Go.WideShapes Go.ChangeAt Go.RowKit Go.Maps

theorem lawIn : Keyed Try.prog 3 := int_keyed Try.underlying3
theorem zeroIn (w : World) : (zeroValue 3).run Try.prog w = .ok (.int .i64 0) w := by kernel_rfl
def keyIn (x : Int) : Lit := .int .i64 x
theorem wf_in {x : Int} (h0 : -9223372036854775808 ≤ x) (h1 : x ≤ 9223372036854775807) : (Lit.int .i64 x).wf = true := WalkArith.wf_i64 (by omega)
theorem key_in {x : Int} (h0 : -9223372036854775808 ≤ x) (h1 : x ≤ 9223372036854775807) : keyOf Try.prog 3 (.int .i64 x) = some (keyIn x) := keyOf_int_mk Try.underlying3 (wf_in h0 h1)
theorem keyIn_ne {a b : Int} (h : ¬ a = b) : keyIn a ≠ keyIn b := by
  intro e
  apply h
  simpa [keyIn] using e
/-- What the map D tells of each number; 0 where it does not hold it. -/
def CntIs (D : DataW Unit) (M : Int → Int) : Prop := IsMap D ∧ ∀ x, D.atKey (keyIn x) (.lit (.int .i64 0)) = .lit (.int .i64 (M x))
def CntAt (w : World) (b n : Nat) (M : Int → Int) : Prop := ∃ D : DataW Unit, w.ownsMap Try.prog 3 (plainElem Try.prog 3) b n D ∧ CntIs D M
def putN (M : Int → Int) (x c : Int) : Int → Int := fun y => if y = x then c else M y
theorem CntIs.put {D : DataW Unit} {M : Int → Int} (h : CntIs D M) (x c : Int) : CntIs (D.put (keyIn x) (.lit (.int .i64 c))) (putN M x c) := by
  refine ⟨h.1.put _ _, fun y => ?_⟩
  by_cases e : y = x
  · subst e
    rw [Maps.atKey_put_same h.1 (show WideAt.IsKeyLit (keyIn y) from trivial)]
    simp [putN]
  · rw [Maps.atKey_put_other (keyIn_ne e), h.2 y]
    simp [putN, e]
theorem cnt_made (w : World) : CntAt (w.alloc (.map #[] 0)) w.heap.size 0 (fun _ => 0) := ⟨.map [], World.ownsMap_made w _ _ _, isMap_empty, fun _ => rfl⟩
theorem CntAt.kept {w w' : World} {b n : Nat} {M : Int → Int} {row : Option Nat} (h : CntAt w b n M) (hg : w.grownBy w' row) (hne : some b ≠ row) : CntAt w' b n M := by
  obtain ⟨D, ho, hs⟩ := h
  exact ⟨D, World.ownsMap.kept ho hg hne, hs⟩
theorem CntAt.below {w w' : World} {b n : Nat} {M : Int → Int} (h : CntAt w b n M) (hb : Below w.heap.size w w') : CntAt w' b n M := by
  obtain ⟨D, ho, hs⟩ := h
  exact ⟨D, World.ownsMap.kept ho (row := none) ⟨hb.os, hb.tape, hb.output, hb.size, fun k hk _ => hb.block k hk⟩ (by simp), hs⟩
theorem CntAt.lt {w : World} {b n : Nat} {M : Int → Int} (h : CntAt w b n M) : b < w.heap.size := by
  obtain ⟨D, ho, _⟩ := h
  exact World.ownsMap.lt ho
end Go.Proofs.Ytpimeekcnndhiaa

/- Contract of impl.CardsOf. -/
namespace Go.Proofs.Ytpimeekcnndhiaa
open Go.ChangeShapes Go.WideShapes Go.ChangeAt Go.RowKit Go.Deep Go.Maps

theorem card_map_ne {w : World} {base b n : Nat} {v : Value} {L : List Card} {M : Int → Int} (o : OwnC w base v L) (c : CntAt w b n M) : some b ≠ v.ownBlock := by
  intro e
  obtain ⟨D, ⟨es, clock, hb, F, hs, rfl⟩, _⟩ := c
  obtain ⟨⟨_, h2⟩, g, cap, rfl⟩ := o
  rcases h2 with ⟨h0, _⟩ | ⟨g', cap', cur, hv, hg, hh, _⟩
  · cases h0
  · cases hv
    simp [Value.ownBlock] at e
    subst e
    rw [hb] at hh
    cases hh
/-- The cards without their counts. -/
def cardsP (L : List Ent) : Nat → List Card
  | 0 => []
  | n + 1 => cardsP L n ++ [cardOfv (inov L n (L.getD n entD)) (L.getD n entD)]
theorem cardsP_len (L : List Ent) (n : Nat) : (cardsP L n).length = n := by
  induction n with
  | zero => rfl
  | succ n ih => simp [cardsP, ih]
theorem cardsP_step {L : List Ent} {i : Nat} {e : Ent} (he : L[i]? = some e) : cardsP L (i + 1) = cardsP L i ++ [cardOfv (inov L i e) e] := by rw [cardsP, getD_of he]
theorem cardsP_get (L : List Ent) (n i : Nat) {e : Ent} (he : L[i]? = some e) (h : i < n) : (cardsP L n)[i]? = some (cardOfv (inov L i e) e) := by
  induction n with
  | zero => omega
  | succ n ih =>
    rw [cardsP]
    by_cases q : i = n
    · subst q
      rw [List.getElem?_append_right (by rw [cardsP_len]; omega), cardsP_len, getD_of he]
      simp
    · rw [List.getElem?_append_left (by rw [cardsP_len]; omega)]
      exact ih (by omega)
/-- The cards of which the first i have their counts. -/
def cardsQ (L : List Ent) (n i : Nat) : List Card := cardsTo L i ++ (cardsP L n).drop i
theorem cardsQ_len {L : List Ent} {n i : Nat} (h : i ≤ n) : (cardsQ L n i).length = n := by
  simp [cardsQ, cardsTo_len, cardsP_len]
  omega
theorem cardsQ_zero (L : List Ent) (n : Nat) : cardsQ L n 0 = cardsP L n := by simp [cardsQ, cardsTo]
theorem cardsQ_all (L : List Ent) (n : Nat) : cardsQ L n n = cardsTo L n := by
  rw [cardsQ, List.drop_eq_nil_of_le (by rw [cardsP_len]; omega), List.append_nil]
theorem cardsQ_at {L : List Ent} {n i : Nat} {e : Ent} (he : L[i]? = some e) (h : i < n) : cardsQ L n i = cardsTo L i ++ cardOfv (inov L i e) e :: (cardsP L n).drop (i + 1) := by
  have hlt : i < (cardsP L n).length := by rw [cardsP_len]; exact h
  have hg := cardsP_get L n i he h
  rw [List.getElem?_eq_getElem hlt] at hg
  rw [cardsQ, List.drop_eq_getElem_cons hlt, Option.some.inj hg]
def withCount (c : Card) (n : Int) : Card := ⟨c.Ino, c.Mode, c.Uid, c.Gid, n, c.Time, c.Path, c.Data⟩
theorem cardsQ_succ {L : List Ent} {n i : Nat} {e : Ent} (he : L[i]? = some e) : cardsQ L n (i + 1) = cardsTo L i ++ cardv L i e :: (cardsP L n).drop (i + 1) := by
  rw [cardsQ, cardsTo, getD_of he]
  simp
theorem valsC_setCount (A B : List Card) (c : Card) (n : Int) : (valsC (A ++ c :: B)).set (A.length * 8 + 4) (.int .i64 n) = valsC (A ++ withCount c n :: B) := by
  rw [valsC_app, valsC_app, List.set_append_right _ _ (by rw [valsC_len]; omega), valsC_len]
  congr 1
  rw [show A.length * 8 + 4 - A.length * 8 = 4 from by omega]
  rfl
theorem rowC_count {w : World} {base g cap : Nat} {A B : List Card} {c : Card} {n N : Nat} (hN : N = (A ++ c :: B).length) (h : OwnC w base (.slice (some ⟨g, 0, none⟩) N cap) (A ++ c :: B)) (hn : n = A.length) (x : Int) : OwnC (w.setCell ⟨g, n * 8 + 4, none⟩ (.int .i64 x)) base (.slice (some ⟨g, 0, none⟩) N cap) (A ++ withCount c x :: B) := by
  subst hN hn
  obtain ⟨ho, g', cap', hv⟩ := h
  cases hv
  have h1 := (World.ownsRow.stored ho (A.length * 8 + 4) (.int .i64 x)).1
  rw [valsC_setCount] at h1
  have hl : (A ++ withCount c x :: B).length = (A ++ c :: B).length := by simp
  exact ⟨by rw [hl]; exact h1, g, cap, by rw [hl]⟩
theorem count_put {L : List Ent} {i : Nat} {e : Ent} (he : L[i]? = some e) : putN (fun x => ((countTo L x i : Nat) : Int)) (inov L i e) ((countTo L (inov L i e) i : Nat) + 1) = fun x => ((countTo L x (i + 1) : Nat) : Int) := by
  funext y
  rw [countTo, inoAt_of he, putN]
  by_cases h : y = inov L i e
  · rw [if_pos h, if_pos h.symm, h]
    push_cast
    rfl
  · rw [if_neg h, if_neg (fun e => h e.symm)]
    simp
theorem card_full {L : List Ent} (hL : listOkv L = true) {i : Nat} {e : Ent} (he : L[i]? = some e) : cardv L i e = withCount (cardOfv (inov L i e) e) (if e.kind = 1 then 2 else (countTo L (inov L i e) L.length : Nat)) := by
  have hk := (entOk_facts (listOk_at hL he).1).2.2.2.2
  unfold cardv withCount cardOfv
  congr 1
  by_cases h1 : e.kind = 1
  · rw [if_pos h1]
    rcases kind_facts hk with h | h | h | h
    · omega
    · rw [datav, if_neg (by omega), ba_nil h.2.2]
    · omega
    · omega
  · rw [if_neg h1]
set_option maxHeartbeats 6400000 in
set_option maxRecDepth 8000 in
theorem cardsOf_impl (L : List Ent) (n g cap : Nat) (w : World) (hn : n = L.length) (hm : n ≤ 4194304) (hcap : n ≤ cap) (hg : g < w.heap.size) (hsm : SmallL L) (h1 : RowE w g L) :
    Calls Try.prog 10 #[.slice (some ⟨g, 0, none⟩) n cap] w fun e w' => ∃ v, e = .returned v ∧ OwnC w' w.heap.size v (cardsv L) ∧ Below w.heap.size w w' := by
  obtain ⟨i0, hi0, hz0, hz1, hz2⟩ := info_parts Try.infoC
  have H1 := Lib.hid h1
  have HK := Lib.hid (fun w (hg : g < w.heap.size) (h : RowE w g L) => listOk_impl L n g cap w hn hm hg hsm h)
  have HI := Lib.hid (fun (i : Nat) (e : Ent) w he (hg : g < w.heap.size) (h : RowE w g L) => ino_impl L i e n g cap w he hn hm hg h)
  have HV : Hid (cardsv L = if listOkv L then cardsTo L n else []) := Lib.hid (by rw [hn]; rfl)
  have HE : Hid (listOkv L = true → ∀ i, i < n → ∃ e, L[i]? = some e ∧ (0 ≤ e.mode ∧ e.mode ≤ 4095) ∧ (1 ≤ inov L i e ∧ inov L i e ≤ 31) ∧ esz e ≤ 4194304) := Lib.hid (fun hL i hi => by
    obtain ⟨e, he⟩ := getE' (L := L) (i := i) (by omega)
    obtain ⟨hM, _, _, _, hk⟩ := entOk_facts (listOk_at hL he).1
    have h1 := ino_bounds hL he
    have h2 := listOk_len hL
    exact ⟨e, he, hM, by omega, hsm.get he⟩)
  have HN : Hid (listOkv L = true → n ≤ 30) := Lib.hid (fun h => by rw [hn]; exact listOk_len h)
  have HP : Hid (∀ i e, L[i]? = some e → cardsP L (i + 1) = cardsP L i ++ [cardOfv (inov L i e) e]) := Lib.hid (fun i e he => cardsP_step he)
  have HPl := Lib.hid (fun i => cardsP_len L i)
  have HCl := Lib.hid (fun x i => countTo_le L x i)
  have HCp := Lib.hid (fun i e (he : L[i]? = some e) => count_put he)
  have HZ : Hid (cardsP L 0 = [] ∧ (fun x => ((countTo L x 0 : Nat) : Int)) = fun _ => 0) := Lib.hid ⟨rfl, rfl⟩
  have HFu : Hid (listOkv L = true → ∀ i e, L[i]? = some e → cardv L i e = withCount (cardOfv (inov L i e) e) (if e.kind = 1 then 2 else (countTo L (inov L i e) n : Nat))) := Lib.hid (fun hL i e he => by rw [hn]; exact card_full hL he)
  have HQa := Lib.hid (fun i e (he : L[i]? = some e) h => cardsQ_at (n := n) he h)
  have HQs := Lib.hid (fun i e (he : L[i]? = some e) => cardsQ_succ (n := n) he)
  have HQl := Lib.hid (fun i h => cardsQ_len (L := L) (n := n) (i := i) h)
  have HQz := Lib.hid (cardsQ_zero L n)
  have HQe := Lib.hid (cardsQ_all L n)
  have HTl := Lib.hid (fun i => cardsTo_len L i)
  generalize cardsv L = r at HV
  generalize listOkv L = ok at HK HV HE HN HFu
  clear h1 hsm hn
  have hmm := @run_makeMap Try.prog
  go_enter Try.func10, Try.ntmps10
  go_wp2_with fail
  refine (HK.out _ (by simp; omega) (H1.out.below ((Below.refl _ _).alloc (Nat.le_refl _) _) hg)).mono ?_
  rintro e w1 ⟨rfl, hb⟩
  have B0 : Below w.heap.size w (w.alloc (.cells #[] 47)) := (Below.refl _ _).alloc (Nat.le_refl _) _
  have B := Lib.hid (btE B0 hb)
  have O := Lib.hid ((OwnC.lit (w := w) (base := w.heap.size) (Nat.le_refl _)).keep hb)
  clear hb B0
  cases ok with
  | false =>
    have HF : Hid (r = []) := Lib.hid (by rw [HV.out]; rfl)
    go_wp2_with fail
    go_ret
    exact ⟨_, rfl, by rw [HF.out]; exact O.out, B.out⟩
  | true =>
    have HF : Hid (r = cardsTo L n) := Lib.hid (by rw [HV.out]; rfl)
    have hn30 := HN.out rfl
    have HE2 := Lib.hid (HE.out rfl)
    have HF2 := Lib.hid (HFu.out rfl)
    clear HV HE HN HK HFu
    have NB : Below w1.heap.size w1 (w1.alloc (.map #[] 0)) := (Below.refl _ _).alloc (Nat.le_refl _) _
    have C0 := Lib.hid (cnt_made w1)
    have O1 := Lib.hid (O.out.keep NB)
    have B1 := Lib.hid (btE B.out NB)
    have hmb := B.out.size
    clear NB O B
    obtain ⟨mb, hmbe⟩ : ∃ b, w1.heap.size = b := ⟨_, rfl⟩
    rw [hmbe] at C0 hmb
    go_wp2_with fail
    clear hmbe
    go_loopw [3, 5, 6, 7, 18] (fun v _ _ _ u wr => ∃ i : Nat, u = .int .i64 i ∧ i ≤ n ∧ OwnC wr w.heap.size v (cardsP L i) ∧ CntAt wr mb i (fun x => ((countTo L x i : Nat) : Int)) ∧ Below w.heap.size w wr) (fun _ _ _ _ u _ => n - (intOf u).toNat)
    case atStart => exact ⟨0, rfl, Nat.zero_le _, by rw [HZ.out.1]; exact O1.out, by rw [HZ.out.2]; exact C0.out, B1.out⟩
    case round =>
      obtain ⟨i, rfl, hi, ho, hc, hb⟩ := hrel
      obtain ⟨wo, hwo⟩ : ∃ wo, wo = wr := ⟨_, rfl⟩
      subst hwo
      have O := Lib.hid ho
      have CM := Lib.hid hc
      have B := Lib.hid hb
      have hsz := B.out.size
      have hmo := CM.out.lt
      clear ho hc hb O1 C0 B1
      by_cases hlt : i < n
      · have hlt2 : (i : Int) < (n : Int) := by omega
        obtain ⟨e, he, hmd, hxd, hz⟩ := HE2.out i hlt
        have HI2 := Lib.hid (fun w hg h => HI.out i e w he hg h)
        have HP2 := Lib.hid (HP.out i e he)
        have HPl2 := HPl.out i
        have HCp2 := Lib.hid (HCp.out i e he)
        have hcb := HCl.out (inov L i e) i
        have R := Lib.hid (H1.out.below B.out hg)
        have zg : g < wo.heap.size := by omega
        have HCd := Lib.hid (fun w => cardOf_impl e (inov L i e) w hz hmd.1 hmd.2)
        obtain ⟨c0, c1, c2, c3, c4, c5, c6, c7, c8, c9⟩ := R.out.ten he
        clear he HP HCp hz hmd
        obtain ⟨go, co, rfl, _, zo, hbo, _⟩ := O.out.open
        generalize inov L i e = x at HI2 HP2 HCp2 HCd hcb hxd
        obtain ⟨D, hD⟩ : ∃ D, cardsP L i = D := ⟨_, rfl⟩
        rw [hD] at HP2 O HPl2 ⊢
        have hDl : D.length ≤ 30 := by omega
        clear hD HPl2
        obtain ⟨k, p, l, m, u1, gi, t, us, gr, b⟩ := e
        simp only [cardOfv, Card.cells, Ent.cells] at HCd HP2
        generalize m + modev k = mo at HCd HP2
        generalize (if k = 1 then (⟨#[]⟩ : ByteArray) else datav ⟨k, p, l, m, u1, gi, t, us, gr, b⟩) = dat at HCd HP2
        go_upto_region 8 with fail
        generalize hw5 : World.alloc wo _ = w5
        have NB : Below wo.heap.size wo w5 := by rw [← hw5]; exact (Below.refl _ _).alloc (Nat.le_refl _) _
        have XE : EntO w5 wo.heap.size ⟨k, p, l, m, u1, gi, t, us, gr, b⟩ := by rw [← hw5]; exact EntO.new wo ⟨k, p, l, m, u1, gi, t, us, gr, b⟩
        clear hw5 c0 c1 c2 c3 c4 c5 c6 c7 c8 c9
        replace O := Lib.hid (O.out.keep NB)
        replace CM := Lib.hid (CM.out.below NB)
        replace R := Lib.hid (R.out.below NB zg)
        replace B := Lib.hid (btE B.out NB)
        have zx := XE.lt
        have zg5 : g < w5.heap.size := Nat.lt_of_lt_of_le zg NB.size
        have HI3 := Lib.hid (fun w' (hb : Below w5.heap.size w5 w') => HI2.out w' (Nat.lt_of_lt_of_le zg5 hb.size) (R.out.below hb zg5))
        have KC : Hid (∀ w', Below w5.heap.size w5 w' → w'.cell? ⟨wo.heap.size, 0, none⟩ = some (.int .i64 k) ∧ w'.cell? ⟨wo.heap.size, 1, none⟩ = some (.string p) ∧ w'.cell? ⟨wo.heap.size, 2, none⟩ = some (.string l) ∧ w'.cell? ⟨wo.heap.size, 3, none⟩ = some (.int .i64 m) ∧ w'.cell? ⟨wo.heap.size, 4, none⟩ = some (.int .i64 u1) ∧ w'.cell? ⟨wo.heap.size, 5, none⟩ = some (.int .i64 gi) ∧ w'.cell? ⟨wo.heap.size, 6, none⟩ = some (.int .i64 t) ∧ w'.cell? ⟨wo.heap.size, 7, none⟩ = some (.string us) ∧ w'.cell? ⟨wo.heap.size, 8, none⟩ = some (.string gr) ∧ w'.cell? ⟨wo.heap.size, 9, none⟩ = some (.string b)) := Lib.hid (fun w' hb => by
          obtain ⟨d0, d1, d2, d3, d4, d5, d6, d7, d8, d9⟩ := (XE.below hb zx).at.zero
          exact ⟨d0, d1, d2, d3, d4, d5, d6, d7, d8, d9⟩)
        clear NB HI2 R
        refine wp_region_cut 6 (by kernel_rfl) (fun w' => Below w5.heap.size w5 w') (fun x y => Below x.heap.size x y) (vBxG 7 47 w5.heap.size #[.int .i64 0, .int .i64 0, .int .i64 0, .int .i64 0, .int .i64 0, .int .i64 0, .string ⟨#[]⟩, .string ⟨#[]⟩] (fun d v => match d with | 23 => v = .agg #[.int .i64 k, .string p, .string l, .int .i64 m, .int .i64 u1, .int .i64 gi, .int .i64 t, .string us, .string gr, .string b] | 24 => v = .slice (some ⟨g, 0, none⟩) n cap | 25 => v = .int .i64 (i : Int) | 26 => v = .int .i64 x | 27 => v = .agg #[.int .i64 x, .int .i64 mo, .int .i64 u1, .int .i64 gi, .int .i64 0, .int .i64 t, .string p, .string dat] | _ => True)) (by kernel_rfl) (by kernel_rfl) ((Below.refl _ _).drew) (vBxG_keep _ _ _ _ _) (by simp) ?hops ?hend
        case hops =>
          simp only [List.take_succ_cons, List.take_zero, List.forall_mem_cons]
          refine ⟨?o23, ?o24, ?o25, ?o26, ?o27, ?o7, fun _ h => by cases h⟩
          case o23 =>
            intro Q a w2 hC hV hI
            have e6 : a.eval (.tmp 6) = .pointer (some ⟨wo.heap.size, 0, none⟩) := (hI 6 (by simp [Op.operands]) (by kernel_rfl)).trans rfl
            have f6 : a.tmps.getD 6 undef = .pointer (some ⟨wo.heap.size, 0, none⟩) := e6
            have g6 : a.tmps[6]?.getD undef = .pointer (some ⟨wo.heap.size, 0, none⟩) := by rw [← Array.getD_eq_getD_getElem?]; exact e6
            have hK := KC.out w2 hC
            refine op_val (.agg #[.int .i64 k, .string p, .string l, .int .i64 m, .int .i64 u1, .int .i64 gi, .int .i64 t, .string us, .string gr, .string b]) ?_ hC (Below.refl _ _) (by intro d hd; cases hd; exact rfl)
            (clear hV hI hC; go_simp <;> (first | rfl | simp | (rw [IntKind.wrap_i64]; omega)))
          case o24 =>
            intro Q a w2 hC hV hI
            have e0 : a.eval (.tmp 0) = .slice (some ⟨g, 0, none⟩) n cap := (hI 0 (by simp [Op.operands]) (by kernel_rfl)).trans rfl
            have f0 : a.tmps.getD 0 undef = .slice (some ⟨g, 0, none⟩) n cap := e0
            have g0 : a.tmps[0]?.getD undef = .slice (some ⟨g, 0, none⟩) n cap := by rw [← Array.getD_eq_getD_getElem?]; exact e0
            refine op_val (.slice (some ⟨g, 0, none⟩) n cap) ?_ hC (Below.refl _ _) (by intro d hd; cases hd; exact rfl)
            (clear hV hI hC; go_simp <;> (first | rfl | simp | (rw [IntKind.wrap_i64]; omega)))
          case o25 =>
            intro Q a w2 hC hV hI
            have e5 : a.eval (.tmp 5) = .int .i64 (i : Int) := (hI 5 (by simp [Op.operands]) (by kernel_rfl)).trans rfl
            have f5 : a.tmps.getD 5 undef = .int .i64 (i : Int) := e5
            have g5 : a.tmps[5]?.getD undef = .int .i64 (i : Int) := by rw [← Array.getD_eq_getD_getElem?]; exact e5
            refine op_val (.int .i64 (i : Int)) ?_ hC (Below.refl _ _) (by intro d hd; cases hd; exact rfl)
            (clear hV hI hC; go_simp <;> (first | rfl | simp | (rw [IntKind.wrap_i64]; omega)))
          case o26 =>
            intro Q a w2 hC hV hI
            have e24 : a.eval (.tmp 24) = .slice (some ⟨g, 0, none⟩) n cap := hV 24 (by simp [Op.operands, Call.operands]) (by kernel_rfl)
            have f24 : a.tmps.getD 24 undef = .slice (some ⟨g, 0, none⟩) n cap := e24
            have g24 : a.tmps[24]?.getD undef = .slice (some ⟨g, 0, none⟩) n cap := by rw [← Array.getD_eq_getD_getElem?]; exact e24
            have e25 : a.eval (.tmp 25) = .int .i64 (i : Int) := hV 25 (by simp [Op.operands, Call.operands]) (by kernel_rfl)
            have f25 : a.tmps.getD 25 undef = .int .i64 (i : Int) := e25
            have g25 : a.tmps[25]?.getD undef = .int .i64 (i : Int) := by rw [← Array.getD_eq_getD_getElem?]; exact e25
            refine op_call (f := 32) (args := #[.slice (some ⟨g, 0, none⟩) n cap, .int .i64 (i : Int)]) (R := fun v y => v = .int .i64 x ∧ Below w2.heap.size w2 y) ?_ ((HI3.out w2 hC).mono ?_) ?_
            · (clear hV hI hC; go_simp <;> (first | rfl | simp | (rw [IntKind.wrap_i64]; omega)))
            · rintro e y ⟨rfl, hb⟩; exact ⟨_, rfl, rfl, hb⟩
            · rintro v y ⟨rfl, hb⟩; exact ⟨hC.trans (hb.mono hC.size), hb, by intro d hd; cases hd; exact rfl⟩
          case o27 =>
            intro Q a w2 hC hV hI
            have e23 : a.eval (.tmp 23) = .agg #[.int .i64 k, .string p, .string l, .int .i64 m, .int .i64 u1, .int .i64 gi, .int .i64 t, .string us, .string gr, .string b] := hV 23 (by simp [Op.operands, Call.operands]) (by kernel_rfl)
            have f23 : a.tmps.getD 23 undef = .agg #[.int .i64 k, .string p, .string l, .int .i64 m, .int .i64 u1, .int .i64 gi, .int .i64 t, .string us, .string gr, .string b] := e23
            have g23 : a.tmps[23]?.getD undef = .agg #[.int .i64 k, .string p, .string l, .int .i64 m, .int .i64 u1, .int .i64 gi, .int .i64 t, .string us, .string gr, .string b] := by rw [← Array.getD_eq_getD_getElem?]; exact e23
            have e26 : a.eval (.tmp 26) = .int .i64 x := hV 26 (by simp [Op.operands, Call.operands]) (by kernel_rfl)
            have f26 : a.tmps.getD 26 undef = .int .i64 x := e26
            have g26 : a.tmps[26]?.getD undef = .int .i64 x := by rw [← Array.getD_eq_getD_getElem?]; exact e26
            refine op_call (f := 31) (args := #[.agg #[.int .i64 k, .string p, .string l, .int .i64 m, .int .i64 u1, .int .i64 gi, .int .i64 t, .string us, .string gr, .string b], .int .i64 x]) (R := fun v y => v = .agg #[.int .i64 x, .int .i64 mo, .int .i64 u1, .int .i64 gi, .int .i64 0, .int .i64 t, .string p, .string dat] ∧ Below w2.heap.size w2 y) ?_ ((HCd.out w2).mono ?_) ?_
            · (clear hV hI hC; go_simp <;> (first | rfl | simp | (rw [IntKind.wrap_i64]; omega)))
            · rintro e y ⟨rfl, hb⟩; exact ⟨_, rfl, rfl, hb⟩
            · rintro v y ⟨rfl, hb⟩; exact ⟨hC.trans (hb.mono hC.size), hb, by intro d hd; cases hd; exact rfl⟩
          case o7 =>
            intro Q a w2 hC hV hI
            refine op_val (.pointer (some ⟨w2.heap.size, 0, none⟩)) (w' := w2.alloc (.cells #[.int .i64 0, .int .i64 0, .int .i64 0, .int .i64 0, .int .i64 0, .int .i64 0, .string ⟨#[]⟩, .string ⟨#[]⟩] 47)) ?_ (hC.alloc hC.size _) ((Below.refl _ _).alloc (Nat.le_refl _) _) ?_
            · (clear hV hI hC; go_simp <;> (first | rfl | simp | (rw [IntKind.wrap_i64]; omega)))
            · intro d hd; cases hd; exact ⟨w2.heap.size, rfl, hC.size, heap_lastG _ _⟩
        case hend =>
          intro f w6 hC hall
          simp only [List.take_succ_cons, List.take_zero, List.drop_succ_cons, List.drop_zero] at hall ⊢
          simp only [List.forall_mem_cons] at hall
          obtain ⟨h23, h24, h25, h26, h27, h7, _⟩ := hall
          replace h23 : f 23 = .agg #[.int .i64 k, .string p, .string l, .int .i64 m, .int .i64 u1, .int .i64 gi, .int .i64 t, .string us, .string gr, .string b] := h23 23 rfl
          replace h24 : f 24 = .slice (some ⟨g, 0, none⟩) n cap := h24 24 rfl
          replace h25 : f 25 = .int .i64 (i : Int) := h25 25 rfl
          replace h26 : f 26 = .int .i64 x := h26 26 rfl
          replace h27 : f 27 = .agg #[.int .i64 x, .int .i64 mo, .int .i64 u1, .int .i64 gi, .int .i64 0, .int .i64 t, .string p, .string dat] := h27 27 rfl
          obtain ⟨G7, hG7, hGB7, hGO7⟩ : ∃ G, f 7 = .pointer (some ⟨G, 0, none⟩) ∧ w5.heap.size ≤ G ∧ w6.heap[G]? = some (.cells #[.int .i64 0, .int .i64 0, .int .i64 0, .int .i64 0, .int .i64 0, .int .i64 0, .string ⟨#[]⟩, .string ⟨#[]⟩] 47 (0, 0)) := h7 7 rfl
          simp only [putAll, Act.put, List.setIfInBounds_toArray, List.set_cons_succ, List.set_cons_zero, h23, h24, h25, h26, h27, hG7]
          clear h23 h24 h25 h26 h27 hG7 h7
          clear KC HI3
          replace O := Lib.hid (O.out.keep hC)
          replace CM := Lib.hid (CM.out.below hC)
          replace XE := XE.below hC zx
          replace B := Lib.hid (btE B.out hC)
          have XO : CardO w6 G7 zeroC := hGO7
          have zo6 : go < w6.heap.size := (World.ownsRow.lt O.out.1 go rfl).2
          have hgo : ¬ G7 = go := by have := (World.ownsRow.lt O.out.1 go rfl).2; have := zo; omega
          have hm7 : ¬ mb = G7 := by omega
          have hx7 : ¬ wo.heap.size = G7 := by omega
          have hw7 : w.heap.size ≤ G7 := by omega
          obtain ⟨d0, d1, d2, d3, d4, d5, d6, d7⟩ := XO.at.zero
          have f0 := XO.fz 0
          have f1 := XO.fz 1
          have f2 := XO.fz 2
          have f3 := XO.fz 3
          have f4 := XO.fz 4
          have f5 := XO.fz 5
          have f6 := XO.fz 6
          have f7 := XO.fz 7
          have XP := XO.put ⟨x, mo, u1, gi, 0, t, p, dat⟩
          have OP := OwnC.kept (w' := putOC w6 G7 ⟨x, mo, u1, gi, 0, t, p, dat⟩) O.out (row := some G7) (grown_putOC w6 G7 _) (fun e => hgo (Option.some.inj e).symm)
          have CP := CM.out.kept (w' := putOC w6 G7 ⟨x, mo, u1, gi, 0, t, p, dat⟩) (row := some G7) (grown_putOC w6 G7 _) (fun e => hm7 (Option.some.inj e))
          have BP := below_putOC (g := G7) B.out hw7 ⟨x, mo, u1, gi, 0, t, p, dat⟩
          simp only [putOC] at XP OP CP BP
          go_upto_region 9 with fail
          obtain ⟨w7, hw7e⟩ : ∃ y, y = ((((((((w6.setCell ⟨G7, 0, none⟩ (.int .i64 x)).setCell ⟨G7, 1, none⟩ (.int .i64 mo)).setCell ⟨G7, 2, none⟩ (.int .i64 u1)).setCell ⟨G7, 3, none⟩ (.int .i64 gi)).setCell ⟨G7, 4, none⟩ (.int .i64 0)).setCell ⟨G7, 5, none⟩ (.int .i64 t)).setCell ⟨G7, 6, none⟩ (.string p)).setCell ⟨G7, 7, none⟩ (.string dat)) := ⟨_, rfl⟩
          rw [← hw7e] at XP OP CP BP ⊢
          clear hw7e d0 d1 d2 d3 d4 d5 d6 d7 f0 f1 f2 f3 f4 f5 f6 f7 O CM B XE XO hGO7
          have O := Lib.hid OP
          have B := Lib.hid BP
          obtain ⟨Dm, hown, hD⟩ := CP
          have OM := Lib.hid hown
          have HDm := Lib.hid hD
          have HLk : Hid (Dm.atKey (keyIn x) (.lit (.int .i64 0)) = .lit (.int .i64 ((countTo L x i : Nat) : Int))) := Lib.hid (hD.2 x)
          obtain ⟨cx, hcx⟩ : ∃ c, countTo L x i = c := ⟨_, rfl⟩
          rw [hcx] at HLk HCp2 hcb
          clear OP BP hown hD hcx
          have XC := Lib.hid XP
          obtain ⟨d0, d1, d2, d3, d4, d5, d6, d7⟩ := XP.at.zero
          clear XP
          go_upto_region 10 with (first | (at_lookup; refine wpList_lookup_own_int _ rfl _ _ 54 rfl 3 3 .i64 lawIn Try.underlying54 Try.underlying3 (zeroIn _) mb i Dm rfl OM.out _ _ rfl (key_in (by omega) (by omega)) ?_; intro c' hat _; obtain rfl : c' = (cx : Int) := (by have := hat.symm.trans HLk.out; simpa using this); clear hat) | (at_mapUpdate; refine wpList_mapUpdate_own _ rfl _ _ _ 54 rfl 3 3 lawIn Try.underlying54 _ mb i Dm rfl OM.out (by simp only [maxLen]; omega) _ _ _ rfl rfl (key_in (by omega) (by omega)) _ [] (plainElem_int Try.underlying3 (wf_in (by omega) (by omega))) ?_; intro w8 hown2 hgrow2))
          have CM8 : Hid (CntAt w8 mb (i + 1) (fun x => ((countTo L x (i + 1) : Nat) : Int))) := Lib.hid (by rw [← HCp2.out]; exact ⟨_, hown2, HDm.out.put x _⟩)
          have hne := card_map_ne O.out ⟨Dm, OM.out, HDm.out⟩
          have O8 : Hid (OwnC w8 w.heap.size (.slice (some ⟨go, 0, none⟩) D.length co) D) := Lib.hid (O.out.kept hgrow2 (fun e => hne e.symm))
          have X8 := XC.out.grown hgrow2 (fun e => hm7 (Option.some.inj e).symm)
          have B8 : Hid (Below w.heap.size w w8) := Lib.hid (B.out.grown hgrow2 B.out.size (fun b hb => by cases hb; omega))
          have OW := Lib.hid O8.out.1
          have hsz8 := B8.out.size
          clear hown2 hgrow2 hne O OM HDm HLk B XC d0 d1 d2 d3 d4 d5 d6 d7 HCp2
          obtain ⟨d0, d1, d2, d3, d4, d5, d6, d7⟩ := X8.at.zero
          go_wp2_with (at_builtin; refine wpList_append_own _ rfl _ _ 24 rfl w.heap.size 47 i0 (.agg #[.int .i64 0, .int .i64 0, .int .i64 0, .int .i64 0, .int .i64 0, .int .i64 0, .string ⟨#[]⟩, .string ⟨#[]⟩]) 8 80 Try.underlying24 hi0 hz0 hz1 hz2 rfl (by decide) _ D.length (valsC D) rfl ?c0q ⟨w8.heap.size, 0, none⟩ 1 1 (valsC [⟨x, mo, u1, gi, 0, t, p, dat⟩]) rfl (valsC_len _) ?c1q ?c2q ?c3q ?c4q ?c5q ?_)
          case c0q => exact World.ownsRow.alloc OW.out _
          case c1q => intro jj uu hu; rw [valsC_one] at hu; exact hu
          case c2q => exact valsC_onecell _
          any_goals (first | (simp only [maxLen]; omega) | omega | (simp; omega))
          intro v' w9 hown hgrow hnil
          have NB : Below w8.heap.size w8 (w8.alloc (.cells (Card.cells ⟨x, mo, u1, gi, 0, t, p, dat⟩).toArray 47)) := (Below.refl _ _).alloc (Nat.le_refl _) _
          have hne9 := card_map_ne O8.out CM8.out
          have O9 : Hid (OwnC w9 w.heap.size v' (cardsP L (i + 1))) := Lib.hid (by rw [HP2.out]; exact own_appC hown rfl rfl hnil)
          have CM9 := Lib.hid ((CM8.out.below NB).kept hgrow hne9)
          have B9 : Hid (Below w.heap.size w w9) := Lib.hid ((btE B8.out NB).grown hgrow (by have := NB.size; omega) (fun b hb => (World.ownsRow.lt OW.out b hb).1))
          clear hown hgrow hnil NB hne9 O8 CM8 B8 OW X8 d0 d1 d2 d3 d4 d5 d6 d7
          go_wp2_with fail
          go_roundw
          case rel => exact ⟨i + 1, by go_num, by omega, O9.out, CM9.out, B9.out⟩
          case measure => simp [intOf]; omega
      · obtain rfl : i = n := by omega
        have hlt2 : ¬ (i : Int) < (i : Int) := by omega
        have HPl2 := HPl.out i
        rw [← HQz.out] at O HPl2
        obtain ⟨go, co, rfl, _, zo, hbo, _⟩ := O.out.open
        rw [HPl2] at *
        clear HPl HP HZ HCp HI HPl2
        have hmm2 := CM.out.lt
        go_wp2_with fail
        go_loopw [8, 9, 40] (fun _ _ u w2 => ∃ j : Nat, u = .int .i64 j ∧ j ≤ i ∧ OwnC w2 w.heap.size (.slice (some ⟨go, 0, none⟩) i co) (cardsQ L i j) ∧ CntAt w2 mb i (fun x => ((countTo L x i : Nat) : Int)) ∧ Below w.heap.size w w2) (fun _ _ u _ => i - (intOf u).toNat)
        case atStart => exact ⟨0, rfl, Nat.zero_le _, O.out, CM.out, B.out⟩
        case round =>
          obtain ⟨j, rfl, hj, ho, hc, hb⟩ := hrel
          obtain ⟨wp, hwp⟩ : ∃ wp, wp = wr := ⟨_, rfl⟩
          subst hwp
          clear O CM B hmm2
          have O := Lib.hid ho
          have CM := Lib.hid hc
          have B := Lib.hid hb
          have hszp := B.out.size
          clear ho hc hb
          by_cases hltj : j < i
          · have hltj2 : (j : Int) < (i : Int) := by omega
            obtain ⟨e, he, hmd, hxd, hz⟩ := HE2.out j hltj
            have R := Lib.hid (H1.out.below B.out hg)
            have zg : g < wp.heap.size := by omega
            have HA := HQa.out j e he hltj
            have HS := HQs.out j e he
            have HFd := HF2.out j e he
            have HLe := HQl.out j hj
            have HTj := HTl.out j
            have hcb := HCl.out (inov L j e) i
            obtain ⟨c0, c1, c2, c3, c4, c5, c6, c7, c8, c9⟩ := R.out.ten he
            rw [HFd] at HS
            clear he hmd hz R HFd
            rw [HA] at O HLe
            generalize inov L j e = x at O HS hcb hxd HLe
            obtain ⟨A, hA⟩ : ∃ A, cardsTo L j = A := ⟨_, rfl⟩
            obtain ⟨T, hT⟩ : ∃ T, (cardsP L i).drop (j + 1) = T := ⟨_, rfl⟩
            rw [hA] at O HS HTj HLe
            rw [hT] at O HS HLe
            clear hA hT HA
            obtain ⟨k, p, l, m, u1, gi, t, us, gr, b⟩ := e
            have hgw := (World.ownsRow.lt O.out.1 go rfl).2
            have NB : Below wp.heap.size wp (wp.alloc (.cells (Ent.cells ⟨k, p, l, m, u1, gi, t, us, gr, b⟩).toArray 43)) := (Below.refl _ _).alloc (Nat.le_refl _) _
            have XE := Lib.hid (EntO.new wp ⟨k, p, l, m, u1, gi, t, us, gr, b⟩)
            replace O := Lib.hid (O.out.keep NB)
            replace CM := Lib.hid (CM.out.below NB)
            replace B := Lib.hid (btE B.out NB)
            simp only [Ent.cells] at XE O CM B HS
            clear NB
            go_upto_region 15 with fail
            obtain ⟨w3, hw3⟩ : ∃ y, y = wp.alloc (.cells #[.int .i64 k, .string p, .string l, .int .i64 m, .int .i64 u1, .int .i64 gi, .int .i64 t, .string us, .string gr, .string b] 43) := ⟨_, rfl⟩
            simp only [List.toArray] at XE O CM B
            rw [← hw3] at XE O CM B ⊢
            clear hw3 c0 c1 c2 c3 c4 c5 c6 c7 c8 c9
            have hin : (valsC (A ++ cardOfv x ⟨k, p, l, m, u1, gi, t, us, gr, b⟩ :: T))[A.length * 8 + 0]? = some (.int .i64 x) := by
              rw [valsC_get _ _ _ (by omega)]
              simp [cardOfv, Card.cells]
            have hc0 := O.out.row.1 _ _ hin
            have hin4 : ∃ y, (valsC (A ++ cardOfv x ⟨k, p, l, m, u1, gi, t, us, gr, b⟩ :: T))[A.length * 8 + 4]? = some y := by
              rw [valsC_get _ _ _ (by omega)]
              simp [Card.cells]
            obtain ⟨y4, hin4⟩ := hin4
            have hc4 := O.out.row.1 _ _ hin4
            have hfz := O.out.1
            rw [HLe] at hfz
            have hf4 : w3.frozen? ⟨go, A.length * 8 + 4, none⟩ = false := World.ownsRow.frozenAt hfz (A.length * 8 + 4)
            clear hin hin4 hfz
            rw [HTj] at hc0 hc4 hf4
            simp only [Nat.add_zero] at hc0
            obtain ⟨Dm, hown, hD⟩ := CM.out
            have OM := Lib.hid hown
            have HLk : Hid (Dm.atKey (keyIn x) (.lit (.int .i64 0)) = .lit (.int .i64 ((countTo L x i : Nat) : Int))) := Lib.hid (hD.2 x)
            have hne := card_map_ne O.out CM.out
            obtain ⟨cx, hcx⟩ : ∃ c, countTo L x i = c := ⟨_, rfl⟩
            rw [hcx] at HLk HS hcb
            clear hown hD hcx
            have O4 := Lib.hid (rowC_count (n := j) HLe.symm O.out HTj.symm (cx : Int))
            have hgo : ¬ wp.heap.size = go := by omega
            have CM4 := Lib.hid (CM.out.kept (w' := w3.setCell ⟨go, j * 8 + 4, none⟩ (.int .i64 (cx : Int))) (row := some go) (grown_setC (grownOC w3 _) _ _) hne)
            have X4 := Lib.hid (XE.out.other (b := go) (i := j * 8 + 4) (v := .int .i64 (cx : Int)) hgo)
            have B4 := Lib.hid (B.out.setCell (p := ⟨go, j * 8 + 4, none⟩) hbo (.int .i64 (cx : Int)))
            clear O CM XE B
            go_upto_region 16 with ((at_lookup; refine wpList_lookup_own_int _ rfl _ _ 54 rfl 3 3 .i64 lawIn Try.underlying54 Try.underlying3 (zeroIn _) mb i Dm rfl OM.out _ _ rfl (key_in (by omega) (by omega)) ?_; intro c' hat _; obtain rfl : c' = (cx : Int) := (by have := hat.symm.trans HLk.out; simpa using this); clear hat))
            obtain ⟨w4, hw4⟩ : ∃ y, y = w3.setCell ⟨go, j * 8 + 4, none⟩ (.int .i64 (cx : Int)) := ⟨_, rfl⟩
            rw [← hw4] at O4 CM4 X4 B4 ⊢
            clear hw4 hc0 hc4 hf4 hne OM HLk
            obtain ⟨d0, d1, d2, d3, d4, d5, d6, d7, d8, d9⟩ := X4.out.at.zero
            by_cases hk : k = 1
            · subst hk
              have HS2 : Hid (cardsQ L i (j + 1) = A ++ withCount (withCount (cardOfv x ⟨1, p, l, m, u1, gi, t, us, gr, b⟩) (cx : Int)) 2 :: T) := Lib.hid (by rw [HS]; rfl)
              have hin4 : ∃ y, (valsC (A ++ withCount (cardOfv x ⟨1, p, l, m, u1, gi, t, us, gr, b⟩) (cx : Int) :: T))[A.length * 8 + 4]? = some y := by
                rw [valsC_get _ _ _ (by omega)]
                simp [Card.cells]
              obtain ⟨y5, hin4⟩ := hin4
              have hc4 := O4.out.row.1 _ _ hin4
              have HLe2 : i = (A ++ withCount (cardOfv x ⟨1, p, l, m, u1, gi, t, us, gr, b⟩) (cx : Int) :: T).length := by rw [← HLe]; simp
              have hfz := O4.out.1
              rw [← HLe2] at hfz
              have hf4 : w4.frozen? ⟨go, A.length * 8 + 4, none⟩ = false := World.ownsRow.frozenAt hfz (A.length * 8 + 4)
              rw [HTj] at hc4 hf4
              clear hin4 hfz
              have hne := card_map_ne O4.out CM4.out
              have O5 := Lib.hid (rowC_count (n := j) HLe2 O4.out HTj.symm 2)
              have CM5 := Lib.hid (CM4.out.kept (w' := w4.setCell ⟨go, j * 8 + 4, none⟩ (.int .i64 2)) (row := some go) (grown_setC (grownOC w4 _) _ _) hne)
              have B5 := Lib.hid (B4.out.setCell (p := ⟨go, j * 8 + 4, none⟩) hbo (.int .i64 2))
              clear O4 CM4 X4 B4 HS HLe2
              go_wp2_with fail
              go_roundw
              case rel => exact ⟨j + 1, by go_num, by omega, by rw [HS2.out]; exact O5.out, CM5.out, B5.out⟩
              case measure => simp [intOf]; omega
            · have hk2 : (k == 1) = false := by simpa using hk
              have HS2 : Hid (cardsQ L i (j + 1) = A ++ withCount (cardOfv x ⟨k, p, l, m, u1, gi, t, us, gr, b⟩) (cx : Int) :: T) := Lib.hid (by rw [HS, if_neg hk])
              clear HS hk X4
              go_wp2_with fail
              go_roundw
              case rel => exact ⟨j + 1, by go_num, by omega, by rw [HS2.out]; exact O4.out, CM4.out, B4.out⟩
              case measure => simp [intOf]; omega
          · obtain rfl : j = i := by omega
            have hltj2 : ¬ (j : Int) < (j : Int) := by omega
            rw [HQe.out, ← HF.out] at O
            go_wp2_with fail
            go_ret
            exact ⟨_, rfl, O.out, B.out⟩
end Go.Proofs.Ytpimeekcnndhiaa

/- Contracts of impl.pathOfInode, impl.entryOf and impl.EntriesOf. -/
namespace Go.Proofs.Ytpimeekcnndhiaa
open Go.ChangeShapes Go.WideShapes Go.ChangeAt Go.RowKit Go.Deep

theorem rowC_wf {w : World} {a : Option Addr} {len cap : Nat} {es : List Card} (h : IsRowC w a len cap es) : ∀ c ∈ es.take len, c.wf := by
  intro c hc
  rcases h with ⟨_, _, _, rfl⟩ | ⟨x, _, hl, _, hlen, hall⟩
  · simp at hc
  · obtain ⟨i, hlt, rfl⟩ := List.mem_iff_getElem.1 (List.mem_of_mem_take hc)
    exact (hall i hlt).2
theorem pathOf_any (C : List Card) (x : Int) (n g cap : Nat) (w : World) (hn : n = C.length) (hm : n ≤ 4194304) (_hg : g < w.heap.size) (hsm : SmallC C) (hx0 : -9223372036854775808 ≤ x) (h1 : RowC w g C) :
    Calls Try.prog 52 #[.slice (some ⟨g, 0, none⟩) n cap, .int .i64 x] w fun e w' => e = .returned (.string (pathOfIno C x)) ∧ Below w.heap.size w w' := by
  have HV : Hid (pathOfIno C x = if x < 1 ∨ (n : Int) < x then ⟨#[]⟩ else (C.getD (x - 1).toNat zeroCd).Path) := Lib.hid (by rw [hn]; rfl)
  by_cases hx : x < 1
  · have HF : Hid (pathOfIno C x = ⟨#[]⟩) := Lib.hid (by rw [HV.out, if_pos (.inl hx)])
    generalize pathOfIno C x = r at HF
    clear HV h1 hsm hn
    go_enter Try.func52, Try.ntmps52
    go_wp2_with fail
    go_ret
    exact ⟨by rw [HF.out]; rfl, Below.refl _ _⟩
  by_cases hx2 : (n : Int) < x
  · have HF : Hid (pathOfIno C x = ⟨#[]⟩) := Lib.hid (by rw [HV.out, if_pos (.inr hx2)])
    generalize pathOfIno C x = r at HF
    clear HV h1 hsm hn
    go_enter Try.func52, Try.ntmps52
    go_wp2_with fail
    go_ret
    exact ⟨by rw [HF.out]; rfl, Below.refl _ _⟩
  obtain ⟨j, hj⟩ : ∃ j : Nat, x = (j : Int) + 1 := ⟨(x - 1).toNat, by omega⟩
  subst hj
  have hlt : j < n := by omega
  obtain ⟨c, hc⟩ := getC' (L := C) (i := j) (by omega)
  have hz := hsm c (List.mem_of_getElem? hc)
  have HF : Hid (pathOfIno C ((j : Int) + 1) = c.Path) := Lib.hid (by rw [HV.out, if_neg (by omega), show ((j : Int) + 1 - 1).toNat = j from by omega, getD_ofC hc])
  obtain ⟨c0, c1, c2, c3, c4, c5, c6, c7⟩ := h1.cols hc
  obtain ⟨a0, a1, a2, a3, a4, a5, p, d⟩ := c
  have HC := Lib.hid (fun w => clone_any p w (by unfold szC at hz; simp only at hz; omega))
  generalize pathOfIno C ((j : Int) + 1) = r at HF
  have hj2 : (j : Int) + 1 - 1 = (j : Int) := by omega
  have hj3 : (j : Int) < (n : Int) := by omega
  clear HV h1 hsm hn hc hz
  go_enter Try.func52, Try.ntmps52
  go_wp2_with fail
  refine (HC.out _).mono ?_
  rintro e w1 ⟨rfl, hb⟩
  go_wp2_with fail
  go_ret
  exact ⟨by rw [HF.out]; rfl, hb⟩
set_option maxHeartbeats 6400000 in
set_option maxRecDepth 8000 in
theorem entryOf_any (C : List Card) (i : Nat) (ino mo u1 gi cn t : Int) (p d : ByteArray) (n g cap : Nat) (w : World) (hc : C[i]? = some ⟨ino, mo, u1, gi, cn, t, p, d⟩) (hn : n = C.length) (hm : n ≤ 4194304) (hg : g < w.heap.size) (hsm : SmallC C) (hi0 : -9223372036854775808 ≤ ino) (hm0 : -9223372036854775808 ≤ mo) (hm1 : mo ≤ 9223372036854775807) (h1 : RowC w g C) :
    Calls Try.prog 39 #[.slice (some ⟨g, 0, none⟩) n cap, .int .i64 i] w fun e w' => e = .returned (.agg (entI C i ⟨ino, mo, u1, gi, cn, t, p, d⟩).cells.toArray) ∧ Below w.heap.size w w' := by
  have hlt : i < n := by rw [hn]; exact (List.getElem?_eq_some_iff.1 hc).1
  have hlt2 : (i : Int) < (n : Int) := by omega
  have H1 := Lib.hid h1
  have HP := Lib.hid (fun w (hg : g < w.heap.size) (h : RowC w g C) => pathOf_any C ino n g cap w hn hm hg hsm hi0 h)
  have hz := hsm _ (List.mem_of_getElem? hc)
  unfold szC at hz
  simp only at hz
  have HC := Lib.hid (fun w => clone_any p w (by omega))
  have HD := Lib.hid (fun w => clone_any d w (by omega))
  have hb := i64_and4095 mo
  have hnb := i64_not4095 mo hm0 hm1
  obtain ⟨md, hmd⟩ : ∃ x, mo % 4096 = x := ⟨_, rfl⟩
  have HR : Hid (entI C i ⟨ino, mo, u1, gi, cn, t, p, d⟩ = if mo - md = 16384 then ⟨1, p, ⟨#[]⟩, md, u1, gi, t, ⟨#[]⟩, ⟨#[]⟩, ⟨#[]⟩⟩ else if mo - md = 40960 then ⟨2, p, d, md, u1, gi, t, ⟨#[]⟩, ⟨#[]⟩, ⟨#[]⟩⟩ else if ino = (i : Int) + 1 then ⟨0, p, ⟨#[]⟩, md, u1, gi, t, ⟨#[]⟩, ⟨#[]⟩, d⟩ else ⟨3, p, (pathOfIno C ino), md, u1, gi, t, ⟨#[]⟩, ⟨#[]⟩, ⟨#[]⟩⟩) := Lib.hid (by subst hmd; rfl)
  rw [hmd] at hb hnb
  generalize entI C i ⟨ino, mo, u1, gi, cn, t, p, d⟩ = r at HR
  generalize pathOfIno C ino = pa at HP HR
  obtain ⟨c0, c1, c2, c3, c4, c5, c6, c7⟩ := h1.cols hc
  simp only at c0 c1 c2 c3 c4 c5 c6 c7
  clear h1 hc hsm hn hmd hz
  go_enter Try.func39, Try.ntmps39
  go_upto_region 2 with fail
  generalize hw1 : World.alloc (World.alloc w _) _ = w1
  have XR : Hid (EntO w1 w.heap.size ⟨0, ⟨#[]⟩, ⟨#[]⟩, 0, 0, 0, 0, ⟨#[]⟩, ⟨#[]⟩, ⟨#[]⟩⟩) := Lib.hid (by rw [← hw1]; exact (EntO.new w ⟨0, ⟨#[]⟩, ⟨#[]⟩, 0, 0, 0, 0, ⟨#[]⟩, ⟨#[]⟩, ⟨#[]⟩⟩).below (B := w.heap.size + 1) ((Below.refl _ _).alloc (by simp) _) (by omega))
  have XC : Hid (CardO w1 (w.heap.size + 1) ⟨ino, mo, u1, gi, cn, t, p, d⟩) := Lib.hid (by rw [← hw1]; exact CardO.newAt (w.alloc (.cells (Ent.cells ⟨0, ⟨#[]⟩, ⟨#[]⟩, 0, 0, 0, 0, ⟨#[]⟩, ⟨#[]⟩, ⟨#[]⟩⟩).toArray 43)) ⟨ino, mo, u1, gi, cn, t, p, d⟩ _ (by simp))
  have B1 : Hid (Below w.heap.size w w1) := Lib.hid (by rw [← hw1]; exact ((Below.refl _ _).alloc (Nat.le_refl _) _).alloc (by simp) _)
  have hs1 : w1.heap.size = w.heap.size + 2 := by rw [← hw1]; simp
  clear hw1 c0 c1 c2 c3 c4 c5 c6 c7
  have KC : Hid (∀ w', Below w1.heap.size w1 w' → w'.cell? ⟨w.heap.size + 1, 1, none⟩ = some (.int .i64 mo) ∧ w'.cell? ⟨w.heap.size + 1, 2, none⟩ = some (.int .i64 u1) ∧ w'.cell? ⟨w.heap.size + 1, 3, none⟩ = some (.int .i64 gi) ∧ w'.cell? ⟨w.heap.size + 1, 5, none⟩ = some (.int .i64 t) ∧ w'.cell? ⟨w.heap.size + 1, 6, none⟩ = some (.string p)) := Lib.hid (fun w' hb => by
    obtain ⟨k0, k1, k2, k3, k4, k5, k6, k7⟩ := (XC.out.below hb (by omega)).at.zero
    exact ⟨k1, k2, k3, k5, k6⟩)
  refine wp_region_cut 14 (by kernel_rfl) (fun w' => Below w1.heap.size w1 w') (fun x y => Below x.heap.size x y) (vBxG 6 43 w1.heap.size #[.int .i64 0, .string ⟨#[]⟩, .string ⟨#[]⟩, .int .i64 0, .int .i64 0, .int .i64 0, .int .i64 0, .string ⟨#[]⟩, .string ⟨#[]⟩, .string ⟨#[]⟩] (fun dq vq => match dq with | 12 => vq = .pointer (some ⟨w.heap.size + 1, 6, none⟩) | 13 => vq = .string p | 14 => vq = .string p | 15 => vq = .pointer (some ⟨w.heap.size + 1, 1, none⟩) | 16 => vq = .int .i64 mo | 17 => vq = .int .i64 md | 18 => vq = .pointer (some ⟨w.heap.size + 1, 2, none⟩) | 19 => vq = .int .i64 u1 | 20 => vq = .pointer (some ⟨w.heap.size + 1, 3, none⟩) | 21 => vq = .int .i64 gi | 22 => vq = .pointer (some ⟨w.heap.size + 1, 5, none⟩) | 23 => vq = .int .i64 t | 24 => vq = .agg #[.int .i64 0, .string p, .string ⟨#[]⟩, .int .i64 md, .int .i64 u1, .int .i64 gi, .int .i64 t, .string ⟨#[]⟩, .string ⟨#[]⟩, .string ⟨#[]⟩] | _ => True)) (by kernel_rfl) (by kernel_rfl) ((Below.refl _ _).drew) (vBxG_keep _ _ _ _ _) (by simp) ?hops ?hend
  case hops =>
    simp only [List.take_succ_cons, List.take_zero, List.forall_mem_cons]
    refine ⟨?o12, ?o13, ?o14, ?o15, ?o16, ?o17, ?o18, ?o19, ?o20, ?o21, ?o22, ?o23, ?o24, ?o6, fun _ h => by cases h⟩
    case o12 =>
      intro Q a w2 hC hV hI
      have e5 : a.eval (.tmp 5) = .pointer (some ⟨w.heap.size + 1, 0, none⟩) := (hI 5 (by simp [Op.operands]) (by kernel_rfl)).trans rfl
      have f5 : a.tmps.getD 5 undef = .pointer (some ⟨w.heap.size + 1, 0, none⟩) := e5
      have g5 : a.tmps[5]?.getD undef = .pointer (some ⟨w.heap.size + 1, 0, none⟩) := by rw [← Array.getD_eq_getD_getElem?]; exact e5
      refine op_val (.pointer (some ⟨w.heap.size + 1, 6, none⟩)) ?_ hC (Below.refl _ _) (by intro d hd; cases hd; exact rfl)
      (clear hV hI hC; go_simp <;> (first | rfl | simp | (rw [IntKind.wrap_i64]; omega)))
    case o13 =>
      intro Q a w2 hC hV hI
      have e12 : a.eval (.tmp 12) = .pointer (some ⟨w.heap.size + 1, 6, none⟩) := hV 12 (by simp [Op.operands]) (by kernel_rfl)
      have f12 : a.tmps.getD 12 undef = .pointer (some ⟨w.heap.size + 1, 6, none⟩) := e12
      have g12 : a.tmps[12]?.getD undef = .pointer (some ⟨w.heap.size + 1, 6, none⟩) := by rw [← Array.getD_eq_getD_getElem?]; exact e12
      have hK := KC.out w2 hC
      refine op_val (.string p) ?_ hC (Below.refl _ _) (by intro d hd; cases hd; exact rfl)
      (clear hV hI hC; go_simp <;> (first | rfl | simp | (rw [IntKind.wrap_i64]; omega)))
    case o14 =>
      intro Q a w2 hC hV hI
      have e13 : a.eval (.tmp 13) = .string p := hV 13 (by simp [Op.operands, Call.operands]) (by kernel_rfl)
      have f13 : a.tmps.getD 13 undef = .string p := e13
      have g13 : a.tmps[13]?.getD undef = .string p := by rw [← Array.getD_eq_getD_getElem?]; exact e13
      refine op_call (f := 50) (args := #[.string p]) (R := fun v y => v = .string p ∧ Below w2.heap.size w2 y) ?_ ((HC.out w2).mono ?_) ?_
      · (clear hV hI hC; go_simp <;> (first | rfl | simp | (rw [IntKind.wrap_i64]; omega)))
      · rintro e y ⟨rfl, hb⟩; exact ⟨_, rfl, rfl, hb⟩
      · rintro v y ⟨rfl, hb⟩; exact ⟨hC.trans (hb.mono hC.size), hb, by intro d hd; cases hd; exact rfl⟩
    case o15 =>
      intro Q a w2 hC hV hI
      have e5 : a.eval (.tmp 5) = .pointer (some ⟨w.heap.size + 1, 0, none⟩) := (hI 5 (by simp [Op.operands]) (by kernel_rfl)).trans rfl
      have f5 : a.tmps.getD 5 undef = .pointer (some ⟨w.heap.size + 1, 0, none⟩) := e5
      have g5 : a.tmps[5]?.getD undef = .pointer (some ⟨w.heap.size + 1, 0, none⟩) := by rw [← Array.getD_eq_getD_getElem?]; exact e5
      refine op_val (.pointer (some ⟨w.heap.size + 1, 1, none⟩)) ?_ hC (Below.refl _ _) (by intro d hd; cases hd; exact rfl)
      (clear hV hI hC; go_simp <;> (first | rfl | simp | (rw [IntKind.wrap_i64]; omega)))
    case o16 =>
      intro Q a w2 hC hV hI
      have e15 : a.eval (.tmp 15) = .pointer (some ⟨w.heap.size + 1, 1, none⟩) := hV 15 (by simp [Op.operands]) (by kernel_rfl)
      have f15 : a.tmps.getD 15 undef = .pointer (some ⟨w.heap.size + 1, 1, none⟩) := e15
      have g15 : a.tmps[15]?.getD undef = .pointer (some ⟨w.heap.size + 1, 1, none⟩) := by rw [← Array.getD_eq_getD_getElem?]; exact e15
      have hK := KC.out w2 hC
      refine op_val (.int .i64 mo) ?_ hC (Below.refl _ _) (by intro d hd; cases hd; exact rfl)
      (clear hV hI hC; go_simp <;> (first | rfl | simp | (rw [IntKind.wrap_i64]; omega)))
    case o17 =>
      intro Q a w2 hC hV hI
      have e16 : a.eval (.tmp 16) = .int .i64 mo := hV 16 (by simp [Op.operands]) (by kernel_rfl)
      have f16 : a.tmps.getD 16 undef = .int .i64 mo := e16
      have g16 : a.tmps[16]?.getD undef = .int .i64 mo := by rw [← Array.getD_eq_getD_getElem?]; exact e16
      have q9 := hb
      refine op_val (.int .i64 md) ?_ hC (Below.refl _ _) (by intro d hd; cases hd; exact rfl)
      (clear hV hI hC; go_simp <;> (first | rfl | simp | (rw [IntKind.wrap_i64]; omega)))
    case o18 =>
      intro Q a w2 hC hV hI
      have e5 : a.eval (.tmp 5) = .pointer (some ⟨w.heap.size + 1, 0, none⟩) := (hI 5 (by simp [Op.operands]) (by kernel_rfl)).trans rfl
      have f5 : a.tmps.getD 5 undef = .pointer (some ⟨w.heap.size + 1, 0, none⟩) := e5
      have g5 : a.tmps[5]?.getD undef = .pointer (some ⟨w.heap.size + 1, 0, none⟩) := by rw [← Array.getD_eq_getD_getElem?]; exact e5
      refine op_val (.pointer (some ⟨w.heap.size + 1, 2, none⟩)) ?_ hC (Below.refl _ _) (by intro d hd; cases hd; exact rfl)
      (clear hV hI hC; go_simp <;> (first | rfl | simp | (rw [IntKind.wrap_i64]; omega)))
    case o19 =>
      intro Q a w2 hC hV hI
      have e18 : a.eval (.tmp 18) = .pointer (some ⟨w.heap.size + 1, 2, none⟩) := hV 18 (by simp [Op.operands]) (by kernel_rfl)
      have f18 : a.tmps.getD 18 undef = .pointer (some ⟨w.heap.size + 1, 2, none⟩) := e18
      have g18 : a.tmps[18]?.getD undef = .pointer (some ⟨w.heap.size + 1, 2, none⟩) := by rw [← Array.getD_eq_getD_getElem?]; exact e18
      have hK := KC.out w2 hC
      refine op_val (.int .i64 u1) ?_ hC (Below.refl _ _) (by intro d hd; cases hd; exact rfl)
      (clear hV hI hC; go_simp <;> (first | rfl | simp | (rw [IntKind.wrap_i64]; omega)))
    case o20 =>
      intro Q a w2 hC hV hI
      have e5 : a.eval (.tmp 5) = .pointer (some ⟨w.heap.size + 1, 0, none⟩) := (hI 5 (by simp [Op.operands]) (by kernel_rfl)).trans rfl
      have f5 : a.tmps.getD 5 undef = .pointer (some ⟨w.heap.size + 1, 0, none⟩) := e5
      have g5 : a.tmps[5]?.getD undef = .pointer (some ⟨w.heap.size + 1, 0, none⟩) := by rw [← Array.getD_eq_getD_getElem?]; exact e5
      refine op_val (.pointer (some ⟨w.heap.size + 1, 3, none⟩)) ?_ hC (Below.refl _ _) (by intro d hd; cases hd; exact rfl)
      (clear hV hI hC; go_simp <;> (first | rfl | simp | (rw [IntKind.wrap_i64]; omega)))
    case o21 =>
      intro Q a w2 hC hV hI
      have e20 : a.eval (.tmp 20) = .pointer (some ⟨w.heap.size + 1, 3, none⟩) := hV 20 (by simp [Op.operands]) (by kernel_rfl)
      have f20 : a.tmps.getD 20 undef = .pointer (some ⟨w.heap.size + 1, 3, none⟩) := e20
      have g20 : a.tmps[20]?.getD undef = .pointer (some ⟨w.heap.size + 1, 3, none⟩) := by rw [← Array.getD_eq_getD_getElem?]; exact e20
      have hK := KC.out w2 hC
      refine op_val (.int .i64 gi) ?_ hC (Below.refl _ _) (by intro d hd; cases hd; exact rfl)
      (clear hV hI hC; go_simp <;> (first | rfl | simp | (rw [IntKind.wrap_i64]; omega)))
    case o22 =>
      intro Q a w2 hC hV hI
      have e5 : a.eval (.tmp 5) = .pointer (some ⟨w.heap.size + 1, 0, none⟩) := (hI 5 (by simp [Op.operands]) (by kernel_rfl)).trans rfl
      have f5 : a.tmps.getD 5 undef = .pointer (some ⟨w.heap.size + 1, 0, none⟩) := e5
      have g5 : a.tmps[5]?.getD undef = .pointer (some ⟨w.heap.size + 1, 0, none⟩) := by rw [← Array.getD_eq_getD_getElem?]; exact e5
      refine op_val (.pointer (some ⟨w.heap.size + 1, 5, none⟩)) ?_ hC (Below.refl _ _) (by intro d hd; cases hd; exact rfl)
      (clear hV hI hC; go_simp <;> (first | rfl | simp | (rw [IntKind.wrap_i64]; omega)))
    case o23 =>
      intro Q a w2 hC hV hI
      have e22 : a.eval (.tmp 22) = .pointer (some ⟨w.heap.size + 1, 5, none⟩) := hV 22 (by simp [Op.operands]) (by kernel_rfl)
      have f22 : a.tmps.getD 22 undef = .pointer (some ⟨w.heap.size + 1, 5, none⟩) := e22
      have g22 : a.tmps[22]?.getD undef = .pointer (some ⟨w.heap.size + 1, 5, none⟩) := by rw [← Array.getD_eq_getD_getElem?]; exact e22
      have hK := KC.out w2 hC
      refine op_val (.int .i64 t) ?_ hC (Below.refl _ _) (by intro d hd; cases hd; exact rfl)
      (clear hV hI hC; go_simp <;> (first | rfl | simp | (rw [IntKind.wrap_i64]; omega)))
    case o24 =>
      intro Q a w2 hC hV hI
      have e14 : a.eval (.tmp 14) = .string p := hV 14 (by simp [Op.operands]) (by kernel_rfl)
      have f14 : a.tmps.getD 14 undef = .string p := e14
      have g14 : a.tmps[14]?.getD undef = .string p := by rw [← Array.getD_eq_getD_getElem?]; exact e14
      have e17 : a.eval (.tmp 17) = .int .i64 md := hV 17 (by simp [Op.operands]) (by kernel_rfl)
      have f17 : a.tmps.getD 17 undef = .int .i64 md := e17
      have g17 : a.tmps[17]?.getD undef = .int .i64 md := by rw [← Array.getD_eq_getD_getElem?]; exact e17
      have e19 : a.eval (.tmp 19) = .int .i64 u1 := hV 19 (by simp [Op.operands]) (by kernel_rfl)
      have f19 : a.tmps.getD 19 undef = .int .i64 u1 := e19
      have g19 : a.tmps[19]?.getD undef = .int .i64 u1 := by rw [← Array.getD_eq_getD_getElem?]; exact e19
      have e21 : a.eval (.tmp 21) = .int .i64 gi := hV 21 (by simp [Op.operands]) (by kernel_rfl)
      have f21 : a.tmps.getD 21 undef = .int .i64 gi := e21
      have g21 : a.tmps[21]?.getD undef = .int .i64 gi := by rw [← Array.getD_eq_getD_getElem?]; exact e21
      have e23 : a.eval (.tmp 23) = .int .i64 t := hV 23 (by simp [Op.operands]) (by kernel_rfl)
      have f23 : a.tmps.getD 23 undef = .int .i64 t := e23
      have g23 : a.tmps[23]?.getD undef = .int .i64 t := by rw [← Array.getD_eq_getD_getElem?]; exact e23
      refine op_val (.agg #[.int .i64 0, .string p, .string ⟨#[]⟩, .int .i64 md, .int .i64 u1, .int .i64 gi, .int .i64 t, .string ⟨#[]⟩, .string ⟨#[]⟩, .string ⟨#[]⟩]) ?_ hC (Below.refl _ _) (by intro d hd; cases hd; exact rfl)
      (clear hV hI hC; go_simp <;> (first | rfl | simp | (rw [IntKind.wrap_i64]; omega)))
    case o6 =>
      intro Q a w2 hC hV hI
      refine op_val (.pointer (some ⟨w2.heap.size, 0, none⟩)) (w' := w2.alloc (.cells #[.int .i64 0, .string ⟨#[]⟩, .string ⟨#[]⟩, .int .i64 0, .int .i64 0, .int .i64 0, .int .i64 0, .string ⟨#[]⟩, .string ⟨#[]⟩, .string ⟨#[]⟩] 43)) ?_ (hC.alloc hC.size _) ((Below.refl _ _).alloc (Nat.le_refl _) _) ?_
      · (clear hV hI hC; go_simp <;> (first | rfl | simp | (rw [IntKind.wrap_i64]; omega)))
      · intro d hd; cases hd; exact ⟨w2.heap.size, rfl, hC.size, heap_lastG _ _⟩
  case hend =>
    intro f w2 hC hall
    simp only [List.take_succ_cons, List.take_zero, List.drop_succ_cons, List.drop_zero] at hall ⊢
    simp only [List.forall_mem_cons] at hall
    obtain ⟨h12, h13, h14, h15, h16, h17, h18, h19, h20, h21, h22, h23, h24, h6, _⟩ := hall
    replace h12 : f 12 = .pointer (some ⟨w.heap.size + 1, 6, none⟩) := h12 12 rfl
    replace h13 : f 13 = .string p := h13 13 rfl
    replace h14 : f 14 = .string p := h14 14 rfl
    replace h15 : f 15 = .pointer (some ⟨w.heap.size + 1, 1, none⟩) := h15 15 rfl
    replace h16 : f 16 = .int .i64 mo := h16 16 rfl
    replace h17 : f 17 = .int .i64 md := h17 17 rfl
    replace h18 : f 18 = .pointer (some ⟨w.heap.size + 1, 2, none⟩) := h18 18 rfl
    replace h19 : f 19 = .int .i64 u1 := h19 19 rfl
    replace h20 : f 20 = .pointer (some ⟨w.heap.size + 1, 3, none⟩) := h20 20 rfl
    replace h21 : f 21 = .int .i64 gi := h21 21 rfl
    replace h22 : f 22 = .pointer (some ⟨w.heap.size + 1, 5, none⟩) := h22 22 rfl
    replace h23 : f 23 = .int .i64 t := h23 23 rfl
    replace h24 : f 24 = .agg #[.int .i64 0, .string p, .string ⟨#[]⟩, .int .i64 md, .int .i64 u1, .int .i64 gi, .int .i64 t, .string ⟨#[]⟩, .string ⟨#[]⟩, .string ⟨#[]⟩] := h24 24 rfl
    obtain ⟨G6, hG6, hGB6, hGO6⟩ : ∃ G, f 6 = .pointer (some ⟨G, 0, none⟩) ∧ w1.heap.size ≤ G ∧ w2.heap[G]? = some (.cells #[.int .i64 0, .string ⟨#[]⟩, .string ⟨#[]⟩, .int .i64 0, .int .i64 0, .int .i64 0, .int .i64 0, .string ⟨#[]⟩, .string ⟨#[]⟩, .string ⟨#[]⟩] 43 (0, 0)) := h6 6 rfl
    simp only [putAll, Act.put, List.setIfInBounds_toArray, List.set_cons_succ, List.set_cons_zero, h12, h13, h14, h15, h16, h17, h18, h19, h20, h21, h22, h23, h24, hG6]
    clear h12 h13 h14 h15 h16 h17 h18 h19 h20 h21 h22 h23 h24 hG6 h6
    clear KC
    have XCa := XC.out.below hC (by omega)
    have XRa := XR.out.below hC (by omega)
    have hB2 := btE B1.out (hC.mono (Nat.le_refl _))
    have XO : EntO w2 G6 ⟨0, ⟨#[]⟩, ⟨#[]⟩, 0, 0, 0, 0, ⟨#[]⟩, ⟨#[]⟩, ⟨#[]⟩⟩ := hGO6
    have hn0 : ¬ w.heap.size = G6 := by omega
    have hn1 : ¬ w.heap.size + 1 = G6 := by omega
    have hw6 : w.heap.size ≤ G6 := by omega
    obtain ⟨d0, d1, d2, d3, d4, d5, d6, d7, d8, d9⟩ := XO.at.zero
    have f0 := XO.fz 0
    have f1 := XO.fz 1
    have f2 := XO.fz 2
    have f3 := XO.fz 3
    have f4 := XO.fz 4
    have f5 := XO.fz 5
    have f6 := XO.fz 6
    have f7 := XO.fz 7
    have f8 := XO.fz 8
    have f9 := XO.fz 9
    have XP := XO.put ⟨0, p, ⟨#[]⟩, md, u1, gi, t, ⟨#[]⟩, ⟨#[]⟩, ⟨#[]⟩⟩
    have RP : EntO (putE w2 G6 ⟨0, p, ⟨#[]⟩, md, u1, gi, t, ⟨#[]⟩, ⟨#[]⟩, ⟨#[]⟩⟩) w.heap.size ⟨0, ⟨#[]⟩, ⟨#[]⟩, 0, 0, 0, 0, ⟨#[]⟩, ⟨#[]⟩, ⟨#[]⟩⟩ := (putE_other hn0).trans XRa
    have CP : CardO (putE w2 G6 ⟨0, p, ⟨#[]⟩, md, u1, gi, t, ⟨#[]⟩, ⟨#[]⟩, ⟨#[]⟩⟩) (w.heap.size + 1) ⟨ino, mo, u1, gi, cn, t, p, d⟩ := (putE_other hn1).trans XCa
    have BP := below_putE (g := G6) hB2 hw6 ⟨0, p, ⟨#[]⟩, md, u1, gi, t, ⟨#[]⟩, ⟨#[]⟩, ⟨#[]⟩⟩
    simp only [putE] at XP RP CP BP
    go_upto_region 3 with fail
    obtain ⟨w3, hw3⟩ : ∃ y, y = ((((((((((w2.setCell ⟨G6, 0, none⟩ (.int .i64 0)).setCell ⟨G6, 1, none⟩ (.string p)).setCell ⟨G6, 2, none⟩ (.string ⟨#[]⟩)).setCell ⟨G6, 3, none⟩ (.int .i64 md)).setCell ⟨G6, 4, none⟩ (.int .i64 u1)).setCell ⟨G6, 5, none⟩ (.int .i64 gi)).setCell ⟨G6, 6, none⟩ (.int .i64 t)).setCell ⟨G6, 7, none⟩ (.string ⟨#[]⟩)).setCell ⟨G6, 8, none⟩ (.string ⟨#[]⟩)).setCell ⟨G6, 9, none⟩ (.string ⟨#[]⟩)) := ⟨_, rfl⟩
    rw [← hw3] at XP RP CP BP ⊢
    clear hw3 d0 d1 d2 d3 d4 d5 d6 d7 d8 d9 f0 f1 f2 f3 f4 f5 f6 f7 f8 f9 XO XCa XRa hB2 hGO6 XC XR B1 HC
    obtain ⟨k0, k1, k2, k3, k4, k5, k6, k7⟩ := CP.at.zero
    obtain ⟨d0, d1, d2, d3, d4, d5, d6, d7, d8, d9⟩ := XP.at.zero
    by_cases q1 : mo - md = 16384
    · have q1b : (mo - md == 16384) = true := by simpa using q1
      have HF : Hid (r = ⟨1, p, ⟨#[]⟩, md, u1, gi, t, ⟨#[]⟩, ⟨#[]⟩, ⟨#[]⟩⟩) := Lib.hid (by rw [HR.out, if_pos q1])
      clear HR q1
      have f0 := XP.fz 0
      have XQ := XP.set (e' := ⟨1, p, ⟨#[]⟩, md, u1, gi, t, ⟨#[]⟩, ⟨#[]⟩, ⟨#[]⟩⟩) 0 (.int .i64 1) rfl
      have RQ : EntO (w3.setCell ⟨G6, 0, none⟩ (.int .i64 1)) w.heap.size ⟨0, ⟨#[]⟩, ⟨#[]⟩, 0, 0, 0, 0, ⟨#[]⟩, ⟨#[]⟩, ⟨#[]⟩⟩ := RP.other hn0
      have CQ : CardO (w3.setCell ⟨G6, 0, none⟩ (.int .i64 1)) (w.heap.size + 1) ⟨ino, mo, u1, gi, cn, t, p, d⟩ := CP.other hn1
      have BQ := BP.setCell (p := ⟨G6, 0, none⟩) hw6 (.int .i64 1)
      go_upto_region 14 with fail
      obtain ⟨w4, hnw⟩ : ∃ y, y = w3.setCell ⟨G6, 0, none⟩ (.int .i64 1) := ⟨_, rfl⟩
      rw [← hnw] at XQ RQ CQ BQ ⊢
      clear hnw f0 XP RP CP BP d0 d1 d2 d3 d4 d5 d6 d7 d8 d9 k0 k1 k2 k3 k4 k5 k6 k7
      have XP := XQ
      have RP := RQ
      have CP := CQ
      have BP := BQ
      clear XQ RQ CQ BQ
      obtain ⟨d0, d1, d2, d3, d4, d5, d6, d7, d8, d9⟩ := XP.at.zero
      obtain ⟨k0, k1, k2, k3, k4, k5, k6, k7⟩ := CP.at.zero
      clear d0 d1 d2 d3 d4 d5 d6 d7 d8 d9
      obtain ⟨d0, d1, d2, d3, d4, d5, d6, d7, d8, d9⟩ := XP.at.zero
      obtain ⟨z0, z1, z2, z3, z4, z5, z6, z7, z8, z9⟩ := RP.at.zero
      have f0 := RP.fz 0
      have f1 := RP.fz 1
      have f2 := RP.fz 2
      have f3 := RP.fz 3
      have f4 := RP.fz 4
      have f5 := RP.fz 5
      have f6 := RP.fz 6
      have f7 := RP.fz 7
      have f8 := RP.fz 8
      have f9 := RP.fz 9
      have R9 := RP.put ⟨1, p, ⟨#[]⟩, md, u1, gi, t, ⟨#[]⟩, ⟨#[]⟩, ⟨#[]⟩⟩
      have B9 := below_putE (g := w.heap.size) BP (Nat.le_refl _) ⟨1, p, ⟨#[]⟩, md, u1, gi, t, ⟨#[]⟩, ⟨#[]⟩, ⟨#[]⟩⟩
      simp only [putE] at R9 B9
      go_wp2_with fail
      refine bodyPost_ret (res_ent1 rfl _ rfl R9) rfl ?_
      exact ⟨by rw [HF.out], B9⟩
    have q1b : (mo - md == 16384) = false := by simpa using q1
    by_cases q2 : mo - md = 40960
    · have q2b : (mo - md == 40960) = true := by simpa using q2
      have HF : Hid (r = ⟨2, p, d, md, u1, gi, t, ⟨#[]⟩, ⟨#[]⟩, ⟨#[]⟩⟩) := Lib.hid (by rw [HR.out, if_neg q1, if_pos q2])
      clear HR q1 q2
      have f0 := XP.fz 0
      have XQ := XP.set (e' := ⟨2, p, ⟨#[]⟩, md, u1, gi, t, ⟨#[]⟩, ⟨#[]⟩, ⟨#[]⟩⟩) 0 (.int .i64 2) rfl
      have RQ : EntO (w3.setCell ⟨G6, 0, none⟩ (.int .i64 2)) w.heap.size ⟨0, ⟨#[]⟩, ⟨#[]⟩, 0, 0, 0, 0, ⟨#[]⟩, ⟨#[]⟩, ⟨#[]⟩⟩ := RP.other hn0
      have CQ : CardO (w3.setCell ⟨G6, 0, none⟩ (.int .i64 2)) (w.heap.size + 1) ⟨ino, mo, u1, gi, cn, t, p, d⟩ := CP.other hn1
      have BQ := BP.setCell (p := ⟨G6, 0, none⟩) hw6 (.int .i64 2)
      go_upto_region 10 with fail
      obtain ⟨w4, hnw⟩ : ∃ y, y = w3.setCell ⟨G6, 0, none⟩ (.int .i64 2) := ⟨_, rfl⟩
      rw [← hnw] at XQ RQ CQ BQ ⊢
      clear hnw f0 XP RP CP BP d0 d1 d2 d3 d4 d5 d6 d7 d8 d9 k0 k1 k2 k3 k4 k5 k6 k7
      have XP := XQ
      have RP := RQ
      have CP := CQ
      have BP := BQ
      clear XQ RQ CQ BQ
      obtain ⟨d0, d1, d2, d3, d4, d5, d6, d7, d8, d9⟩ := XP.at.zero
      obtain ⟨k0, k1, k2, k3, k4, k5, k6, k7⟩ := CP.at.zero
      go_wp2_with fail
      refine (HD.out _).mono ?_
      rintro e w5 ⟨rfl, hb⟩
      replace XP := XP.below hb XP.lt
      replace RP := RP.below hb RP.lt
      replace CP := CP.below hb CP.lt
      replace BP := btE BP hb
      clear hb d0 d1 d2 d3 d4 d5 d6 d7 d8 d9 k0 k1 k2 k3 k4 k5 k6 k7
      obtain ⟨d0, d1, d2, d3, d4, d5, d6, d7, d8, d9⟩ := XP.at.zero
      obtain ⟨k0, k1, k2, k3, k4, k5, k6, k7⟩ := CP.at.zero
      have f2 := XP.fz 2
      have XQ := XP.set (e' := ⟨2, p, d, md, u1, gi, t, ⟨#[]⟩, ⟨#[]⟩, ⟨#[]⟩⟩) 2 (.string d) rfl
      have RQ : EntO (w5.setCell ⟨G6, 2, none⟩ (.string d)) w.heap.size ⟨0, ⟨#[]⟩, ⟨#[]⟩, 0, 0, 0, 0, ⟨#[]⟩, ⟨#[]⟩, ⟨#[]⟩⟩ := RP.other hn0
      have CQ : CardO (w5.setCell ⟨G6, 2, none⟩ (.string d)) (w.heap.size + 1) ⟨ino, mo, u1, gi, cn, t, p, d⟩ := CP.other hn1
      have BQ := BP.setCell (p := ⟨G6, 2, none⟩) hw6 (.string d)
      go_upto_region 14 with fail
      obtain ⟨w6, hnw⟩ : ∃ y, y = w5.setCell ⟨G6, 2, none⟩ (.string d) := ⟨_, rfl⟩
      rw [← hnw] at XQ RQ CQ BQ ⊢
      clear hnw f2 XP RP CP BP d0 d1 d2 d3 d4 d5 d6 d7 d8 d9 k0 k1 k2 k3 k4 k5 k6 k7
      have XP := XQ
      have RP := RQ
      have CP := CQ
      have BP := BQ
      clear XQ RQ CQ BQ
      obtain ⟨d0, d1, d2, d3, d4, d5, d6, d7, d8, d9⟩ := XP.at.zero
      obtain ⟨k0, k1, k2, k3, k4, k5, k6, k7⟩ := CP.at.zero
      clear d0 d1 d2 d3 d4 d5 d6 d7 d8 d9
      obtain ⟨d0, d1, d2, d3, d4, d5, d6, d7, d8, d9⟩ := XP.at.zero
      obtain ⟨z0, z1, z2, z3, z4, z5, z6, z7, z8, z9⟩ := RP.at.zero
      have f0 := RP.fz 0
      have f1 := RP.fz 1
      have f2 := RP.fz 2
      have f3 := RP.fz 3
      have f4 := RP.fz 4
      have f5 := RP.fz 5
      have f6 := RP.fz 6
      have f7 := RP.fz 7
      have f8 := RP.fz 8
      have f9 := RP.fz 9
      have R9 := RP.put ⟨2, p, d, md, u1, gi, t, ⟨#[]⟩, ⟨#[]⟩, ⟨#[]⟩⟩
      have B9 := below_putE (g := w.heap.size) BP (Nat.le_refl _) ⟨2, p, d, md, u1, gi, t, ⟨#[]⟩, ⟨#[]⟩, ⟨#[]⟩⟩
      simp only [putE] at R9 B9
      go_wp2_with fail
      refine bodyPost_ret (res_ent1 rfl _ rfl R9) rfl ?_
      exact ⟨by rw [HF.out], B9⟩
    have q2b : (mo - md == 40960) = false := by simpa using q2
    by_cases q3 : ino = (i : Int) + 1
    · have q3b : (ino == (i : Int) + 1) = true := by simpa using q3
      have HF : Hid (r = ⟨0, p, ⟨#[]⟩, md, u1, gi, t, ⟨#[]⟩, ⟨#[]⟩, d⟩) := Lib.hid (by rw [HR.out, if_neg q1, if_neg q2, if_pos q3])
      clear HR q1 q2 q3
      have f0 := XP.fz 0
      have XQ := XP.set (e' := ⟨0, p, ⟨#[]⟩, md, u1, gi, t, ⟨#[]⟩, ⟨#[]⟩, ⟨#[]⟩⟩) 0 (.int .i64 0) rfl
      have RQ : EntO (w3.setCell ⟨G6, 0, none⟩ (.int .i64 0)) w.heap.size ⟨0, ⟨#[]⟩, ⟨#[]⟩, 0, 0, 0, 0, ⟨#[]⟩, ⟨#[]⟩, ⟨#[]⟩⟩ := RP.other hn0
      have CQ : CardO (w3.setCell ⟨G6, 0, none⟩ (.int .i64 0)) (w.heap.size + 1) ⟨ino, mo, u1, gi, cn, t, p, d⟩ := CP.other hn1
      have BQ := BP.setCell (p := ⟨G6, 0, none⟩) hw6 (.int .i64 0)
      go_upto_region 13 with fail
      obtain ⟨w4, hnw⟩ : ∃ y, y = w3.setCell ⟨G6, 0, none⟩ (.int .i64 0) := ⟨_, rfl⟩
      rw [← hnw] at XQ RQ CQ BQ ⊢
      clear hnw f0 XP RP CP BP d0 d1 d2 d3 d4 d5 d6 d7 d8 d9 k0 k1 k2 k3 k4 k5 k6 k7
      have XP := XQ
      have RP := RQ
      have CP := CQ
      have BP := BQ
      clear XQ RQ CQ BQ
      obtain ⟨d0, d1, d2, d3, d4, d5, d6, d7, d8, d9⟩ := XP.at.zero
      obtain ⟨k0, k1, k2, k3, k4, k5, k6, k7⟩ := CP.at.zero
      go_wp2_with fail
      refine (HD.out _).mono ?_
      rintro e w5 ⟨rfl, hb⟩
      replace XP := XP.below hb XP.lt
      replace RP := RP.below hb RP.lt
      replace CP := CP.below hb CP.lt
      replace BP := btE BP hb
      clear hb d0 d1 d2 d3 d4 d5 d6 d7 d8 d9 k0 k1 k2 k3 k4 k5 k6 k7
      obtain ⟨d0, d1, d2, d3, d4, d5, d6, d7, d8, d9⟩ := XP.at.zero
      obtain ⟨k0, k1, k2, k3, k4, k5, k6, k7⟩ := CP.at.zero
      have f9 := XP.fz 9
      have XQ := XP.set (e' := ⟨0, p, ⟨#[]⟩, md, u1, gi, t, ⟨#[]⟩, ⟨#[]⟩, d⟩) 9 (.string d) rfl
      have RQ : EntO (w5.setCell ⟨G6, 9, none⟩ (.string d)) w.heap.size ⟨0, ⟨#[]⟩, ⟨#[]⟩, 0, 0, 0, 0, ⟨#[]⟩, ⟨#[]⟩, ⟨#[]⟩⟩ := RP.other hn0
      have CQ : CardO (w5.setCell ⟨G6, 9, none⟩ (.string d)) (w.heap.size + 1) ⟨ino, mo, u1, gi, cn, t, p, d⟩ := CP.other hn1
      have BQ := BP.setCell (p := ⟨G6, 9, none⟩) hw6 (.string d)
      go_upto_region 14 with fail
      obtain ⟨w6, hnw⟩ : ∃ y, y = w5.setCell ⟨G6, 9, none⟩ (.string d) := ⟨_, rfl⟩
      rw [← hnw] at XQ RQ CQ BQ ⊢
      clear hnw f9 XP RP CP BP d0 d1 d2 d3 d4 d5 d6 d7 d8 d9 k0 k1 k2 k3 k4 k5 k6 k7
      have XP := XQ
      have RP := RQ
      have CP := CQ
      have BP := BQ
      clear XQ RQ CQ BQ
      obtain ⟨d0, d1, d2, d3, d4, d5, d6, d7, d8, d9⟩ := XP.at.zero
      obtain ⟨k0, k1, k2, k3, k4, k5, k6, k7⟩ := CP.at.zero
      clear d0 d1 d2 d3 d4 d5 d6 d7 d8 d9
      obtain ⟨d0, d1, d2, d3, d4, d5, d6, d7, d8, d9⟩ := XP.at.zero
      obtain ⟨z0, z1, z2, z3, z4, z5, z6, z7, z8, z9⟩ := RP.at.zero
      have f0 := RP.fz 0
      have f1 := RP.fz 1
      have f2 := RP.fz 2
      have f3 := RP.fz 3
      have f4 := RP.fz 4
      have f5 := RP.fz 5
      have f6 := RP.fz 6
      have f7 := RP.fz 7
      have f8 := RP.fz 8
      have f9 := RP.fz 9
      have R9 := RP.put ⟨0, p, ⟨#[]⟩, md, u1, gi, t, ⟨#[]⟩, ⟨#[]⟩, d⟩
      have B9 := below_putE (g := w.heap.size) BP (Nat.le_refl _) ⟨0, p, ⟨#[]⟩, md, u1, gi, t, ⟨#[]⟩, ⟨#[]⟩, d⟩
      simp only [putE] at R9 B9
      go_wp2_with fail
      refine bodyPost_ret (res_ent1 rfl _ rfl R9) rfl ?_
      exact ⟨by rw [HF.out], B9⟩
    have q3b : (ino == (i : Int) + 1) = false := by simpa using q3
    have HF : Hid (r = ⟨3, p, pa, md, u1, gi, t, ⟨#[]⟩, ⟨#[]⟩, ⟨#[]⟩⟩) := Lib.hid (by rw [HR.out, if_neg q1, if_neg q2, if_neg q3])
    clear HR q1 q2 q3
    have f0 := XP.fz 0
    have XQ := XP.set (e' := ⟨3, p, ⟨#[]⟩, md, u1, gi, t, ⟨#[]⟩, ⟨#[]⟩, ⟨#[]⟩⟩) 0 (.int .i64 3) rfl
    have RQ : EntO (w3.setCell ⟨G6, 0, none⟩ (.int .i64 3)) w.heap.size ⟨0, ⟨#[]⟩, ⟨#[]⟩, 0, 0, 0, 0, ⟨#[]⟩, ⟨#[]⟩, ⟨#[]⟩⟩ := RP.other hn0
    have CQ : CardO (w3.setCell ⟨G6, 0, none⟩ (.int .i64 3)) (w.heap.size + 1) ⟨ino, mo, u1, gi, cn, t, p, d⟩ := CP.other hn1
    have BQ := BP.setCell (p := ⟨G6, 0, none⟩) hw6 (.int .i64 3)
    go_upto_region 5 with fail
    obtain ⟨w4, hnw⟩ : ∃ y, y = w3.setCell ⟨G6, 0, none⟩ (.int .i64 3) := ⟨_, rfl⟩
    rw [← hnw] at XQ RQ CQ BQ ⊢
    clear hnw f0 XP RP CP BP d0 d1 d2 d3 d4 d5 d6 d7 d8 d9 k0 k1 k2 k3 k4 k5 k6 k7
    have XP := XQ
    have RP := RQ
    have CP := CQ
    have BP := BQ
    clear XQ RQ CQ BQ
    obtain ⟨d0, d1, d2, d3, d4, d5, d6, d7, d8, d9⟩ := XP.at.zero
    obtain ⟨k0, k1, k2, k3, k4, k5, k6, k7⟩ := CP.at.zero
    go_wp2_with fail
    refine (HP.out _ (by have := BP.size; omega) (H1.out.below BP hg)).mono ?_
    rintro e w5 ⟨rfl, hb⟩
    replace XP := XP.below hb XP.lt
    replace RP := RP.below hb RP.lt
    replace CP := CP.below hb CP.lt
    replace BP := btE BP hb
    clear hb d0 d1 d2 d3 d4 d5 d6 d7 d8 d9 k0 k1 k2 k3 k4 k5 k6 k7
    obtain ⟨d0, d1, d2, d3, d4, d5, d6, d7, d8, d9⟩ := XP.at.zero
    obtain ⟨k0, k1, k2, k3, k4, k5, k6, k7⟩ := CP.at.zero
    have f2 := XP.fz 2
    have XQ := XP.set (e' := ⟨3, p, pa, md, u1, gi, t, ⟨#[]⟩, ⟨#[]⟩, ⟨#[]⟩⟩) 2 (.string pa) rfl
    have RQ : EntO (w5.setCell ⟨G6, 2, none⟩ (.string pa)) w.heap.size ⟨0, ⟨#[]⟩, ⟨#[]⟩, 0, 0, 0, 0, ⟨#[]⟩, ⟨#[]⟩, ⟨#[]⟩⟩ := RP.other hn0
    have CQ : CardO (w5.setCell ⟨G6, 2, none⟩ (.string pa)) (w.heap.size + 1) ⟨ino, mo, u1, gi, cn, t, p, d⟩ := CP.other hn1
    have BQ := BP.setCell (p := ⟨G6, 2, none⟩) hw6 (.string pa)
    go_upto_region 14 with fail
    obtain ⟨w6, hnw⟩ : ∃ y, y = w5.setCell ⟨G6, 2, none⟩ (.string pa) := ⟨_, rfl⟩
    rw [← hnw] at XQ RQ CQ BQ ⊢
    clear hnw f2 XP RP CP BP d0 d1 d2 d3 d4 d5 d6 d7 d8 d9 k0 k1 k2 k3 k4 k5 k6 k7
    have XP := XQ
    have RP := RQ
    have CP := CQ
    have BP := BQ
    clear XQ RQ CQ BQ
    obtain ⟨d0, d1, d2, d3, d4, d5, d6, d7, d8, d9⟩ := XP.at.zero
    obtain ⟨k0, k1, k2, k3, k4, k5, k6, k7⟩ := CP.at.zero
    clear d0 d1 d2 d3 d4 d5 d6 d7 d8 d9
    obtain ⟨d0, d1, d2, d3, d4, d5, d6, d7, d8, d9⟩ := XP.at.zero
    obtain ⟨z0, z1, z2, z3, z4, z5, z6, z7, z8, z9⟩ := RP.at.zero
    have f0 := RP.fz 0
    have f1 := RP.fz 1
    have f2 := RP.fz 2
    have f3 := RP.fz 3
    have f4 := RP.fz 4
    have f5 := RP.fz 5
    have f6 := RP.fz 6
    have f7 := RP.fz 7
    have f8 := RP.fz 8
    have f9 := RP.fz 9
    have R9 := RP.put ⟨3, p, pa, md, u1, gi, t, ⟨#[]⟩, ⟨#[]⟩, ⟨#[]⟩⟩
    have B9 := below_putE (g := w.heap.size) BP (Nat.le_refl _) ⟨3, p, pa, md, u1, gi, t, ⟨#[]⟩, ⟨#[]⟩, ⟨#[]⟩⟩
    simp only [putE] at R9 B9
    go_wp2_with fail
    refine bodyPost_ret (res_ent1 rfl _ rfl R9) rfl ?_
    exact ⟨by rw [HF.out], B9⟩
theorem small_entI {C : List Card} {i : Nat} {c : Card} (hC : SmallC C) (hc : szC c ≤ 2097152) : esz (entI C i c) ≤ 4194304 := by
  have h0 : (⟨#[]⟩ : ByteArray).size = 0 := rfl
  have hp : (pathOfIno C c.Ino).size ≤ 2097152 := by
    unfold pathOfIno
    split
    · rw [h0]; omega
    · rename_i hx
      obtain ⟨a, ha⟩ := getC' (L := C) (i := (c.Ino - 1).toNat) (by omega)
      rw [getD_ofC ha]
      have := hC a (List.mem_of_getElem? ha)
      unfold szC at this
      omega
  unfold szC at hc
  unfold entI
  split
  · simp only [esz]; omega
  · split
    · simp only [esz]; omega
    · split
      · simp only [esz]; omega
      · simp only [esz]; omega
theorem small_entsI {C : List Card} (hC : SmallC C) (n : Nat) (hn : n ≤ C.length) : SmallL (entsI C n) := by
  intro e he
  obtain ⟨i, hi⟩ := List.mem_iff_getElem?.1 he
  have hlt : i < n := by
    have := (List.getElem?_eq_some_iff.1 hi).1
    rw [entsI_len] at this
    exact this
  rw [entsI_get _ _ _ hlt] at hi
  obtain rfl := Option.some.inj hi
  have hc : C[i]? = some C[i] := List.getElem?_eq_getElem (by omega)
  rw [getD_ofC hc]
  exact small_entI hC (hC _ (List.mem_of_getElem? hc))
theorem entriesv_I (C : List Card) : entriesv C = if okI C then entsI C C.length else [] := by
  rw [okI_eq, entriesv]
  by_cases h : okS C = true
  · rw [if_pos h, if_pos h, (entries_same C (.inl h)).2.2]
  · rw [if_neg h, if_neg h]
set_option maxHeartbeats 6400000 in
set_option maxRecDepth 8000 in
theorem entriesOf_impl (C : List Card) (n g cap : Nat) (w : World) (hn : n = C.length) (hm : n ≤ 1048576) (hcap : n ≤ cap) (hg : g < w.heap.size) (hsm : SmallC C) (hwf : ∀ c ∈ C, c.wf) (h1 : RowC w g C) :
    Calls Try.prog 19 #[.slice (some ⟨g, 0, none⟩) n cap] w fun e w' => ∃ v, e = .returned (.tuple #[v, .bool (okS C)]) ∧ OwnE w' w.heap.size v (entriesv C) ∧ Below w.heap.size w w' := by
  obtain ⟨i0, hi0, hz0, hz1, hz2⟩ := info_parts Try.infoE
  have H1 := Lib.hid h1
  have HG : Hid (∀ i, i < n → ∃ c, C[i]? = some c ∧ c.wf) := Lib.hid (fun i hi => by obtain ⟨c, hc⟩ := getC' (L := C) (i := i) (by omega); exact ⟨c, hc, hwf c (List.mem_of_getElem? hc)⟩)
  have HS : Hid (∀ i c, C[i]? = some c → entsI C (i + 1) = entsI C i ++ [entI C i c]) := Lib.hid (fun i c hc => by rw [entsI, getD_ofC hc])
  have HE := Lib.hid (fun (i : Nat) (ino mo u1 gi cn t : Int) (p d : ByteArray) (hc : C[i]? = some ⟨ino, mo, u1, gi, cn, t, p, d⟩) (hi0 : -9223372036854775808 ≤ ino) (hm0 : -9223372036854775808 ≤ mo) (hm1 : mo ≤ 9223372036854775807) w (hg : g < w.heap.size) (h : RowC w g C) => entryOf_any C i ino mo u1 gi cn t p d n g cap w hc hn (by omega) hg hsm hi0 hm0 hm1 h)
  have HLn := Lib.hid (fun i => entsI_len C i)
  have HQ := Lib.hid (fun g2 c2 w (hc : n ≤ c2) (hg : g2 < w.heap.size) (h : RowE w g2 (entsI C n)) => cardsOf_impl (entsI C n) n g2 c2 w (entsI_len C n).symm (by omega) hc hg (small_entsI hsm n (by omega)) h)
  have hql : (cardsv (entsI C n)).length ≤ n := by have := cardsv_le (entsI C n); rw [entsI_len] at this; exact this
  have HM := Lib.hid (fun M (m g2 c2 : Nat) w (hM : m = M.length) (hl : m ≤ 4194304) (hg2 : g2 < w.heap.size) (hg : g < w.heap.size) (h2 : RowC w g2 M) (h : RowC w g C) => equal_libC M C m g2 c2 n g cap w hM hn hl (by omega) hg2 hg h2 h)
  have HO : Hid (okS C = decide (cardsv (entsI C n) = C)) := Lib.hid (by rw [← okI_eq, hn]; rfl)
  have HV : Hid (entriesv C = if okS C then entsI C n else []) := Lib.hid (by rw [entriesv_I, okI_eq, hn])
  have HZ : Hid (entsI C 0 = []) := Lib.hid rfl
  obtain ⟨w0, hmk, hown0, hgr0⟩ := run_make_own (P := Try.prog) w w.heap.size 26 43 i0 (.agg #[.int .i64 0, .string ⟨#[]⟩, .string ⟨#[]⟩, .int .i64 0, .int .i64 0, .int .i64 0, .int .i64 0, .string ⟨#[]⟩, .string ⟨#[]⟩, .string ⟨#[]⟩]) 10 Try.underlying26 hi0 hz0 hz1 .i64 .i64 n (by rw [hz2]; omega) (by simp only [maxLen]; omega) (Nat.le_refl _)
  have O0 : Hid (OwnE w0 w.heap.size (.slice (some ⟨w.heap.size, 0, none⟩) 0 n) []) := Lib.hid ⟨hown0, _, _, rfl⟩
  have B0 : Hid (Below w.heap.size w w0) := Lib.hid ((Below.refl _ w).grown hgr0 (Nat.le_refl _) (fun b hb => by cases hb))
  generalize okS C = ok at HO HV
  generalize entriesv C = r at HV
  clear h1 hn hsm hwf hown0 hgr0
  go_enter Try.func19, Try.ntmps19
  go_wp2_with fail
  clear hmk
  go_loopw [4, 5, 11] (fun v _ u wr => ∃ i : Nat, u = .int .i64 i ∧ i ≤ n ∧ OwnE wr w.heap.size v (entsI C i) ∧ Below w.heap.size w wr) (fun _ _ u _ => n - (intOf u).toNat)
  case atStart => exact ⟨0, rfl, Nat.zero_le _, by rw [HZ.out]; exact O0.out, B0.out⟩
  case round =>
    obtain ⟨i, rfl, hi, ho, hb⟩ := hrel
    have O := Lib.hid ho
    have B := Lib.hid hb
    have hszB := B.out.size
    have R := Lib.hid (H1.out.below B.out hg)
    have zg5 : g < wr.heap.size := by omega
    clear ho hb O0 B0
    by_cases hlt : i < n
    · have hlt2 : (i : Int) < (n : Int) := by omega
      obtain ⟨c, hc, hcw⟩ := HG.out i hlt
      have HS2 := Lib.hid (HS.out i c hc)
      have HL2 := HLn.out i
      obtain ⟨ino, mo, u1, gi, cn, t, p, d⟩ := c
      obtain ⟨⟨hi0', _⟩, ⟨hm0, hm1⟩, _⟩ := hcw
      simp only at hm0 hm1 hi0'
      have HE2 := Lib.hid (HE.out i ino mo u1 gi cn t p d hc hi0' hm0 hm1 _ zg5 R.out)
      clear hc HS HE HG
      obtain ⟨go, co, rfl, _, zo, hbo, _, _⟩ := O.out.open
      obtain ⟨D, hD⟩ : ∃ D, entsI C i = D := ⟨_, rfl⟩
      rw [hD] at HS2 O HL2 ⊢
      have hDl : D.length ≤ 1048576 := by omega
      clear hD HL2
      generalize entI C i ⟨ino, mo, u1, gi, cn, t, p, d⟩ = f at HS2 HE2
      obtain ⟨ek, ep, el, em, eu, eg, et, es, er, eb⟩ := f
      simp only [Ent.cells] at HE2
      go_wp2_with fail
      refine HE2.out.mono ?_
      rintro e w6 ⟨rfl, hb⟩
      replace O := Lib.hid (O.out.keep hb)
      replace B := Lib.hid (btE B.out hb)
      have OW := Lib.hid O.out.1
      have hsz6 := B.out.size
      clear hb HE2 R
      go_wp2_with (at_builtin; refine wpList_append_own _ rfl _ _ 26 rfl w.heap.size 43 i0 (.agg #[.int .i64 0, .string ⟨#[]⟩, .string ⟨#[]⟩, .int .i64 0, .int .i64 0, .int .i64 0, .int .i64 0, .string ⟨#[]⟩, .string ⟨#[]⟩, .string ⟨#[]⟩]) 10 120 Try.underlying26 hi0 hz0 hz1 hz2 rfl (by decide) _ D.length (entVals D) rfl ?c0q ⟨w6.heap.size, 0, none⟩ 1 1 (entVals [⟨ek, ep, el, em, eu, eg, et, es, er, eb⟩]) rfl (entVals_len _) ?c1q ?c2q ?c3q ?c4q ?c5q ?_)
      case c0q => exact World.ownsRow.alloc OW.out _
      case c1q => first | exact ent_new _ _ _ | exact RowE.news0 (ent_new _ _ _) | (intro jj uu hu; rw [entVals_one] at hu; exact hu)
      case c2q => exact entVals_onecell _
      any_goals (first | (simp only [maxLen]; omega) | omega | (simp; omega))
      intro v' w7 hown hgrow hnil
      have O7 : Hid (OwnE w7 w.heap.size v' (entsI C (i + 1))) := Lib.hid (by rw [HS2.out]; exact ownE_app hown rfl rfl hnil)
      have B7 : Hid (Below w.heap.size w w7) := Lib.hid ((B.out.alloc hsz6 _).grown hgrow (by simp; omega) (fun b hb => (World.ownsRow.lt OW.out b hb).1))
      clear hown hgrow hnil O B OW
      go_wp2_with fail
      go_roundw
      case rel => exact ⟨i + 1, by go_num, by omega, O7.out, B7.out⟩
      case measure => simp [intOf]; omega
    · obtain rfl : i = n := by omega
      have hlt2 : ¬ (i : Int) < (i : Int) := by omega
      have HLi := HLn.out i
      obtain ⟨go, co, rfl, hro, zo, hbo, hcap2, _⟩ := O.out.open
      rw [HLi] at hcap2
      have RO := Lib.hid hro
      have HQi := Lib.hid (fun w hg h => HQ.out go co w hcap2 hg h)
      generalize entsI C i = D at *
      subst HLi
      clear hro HQ HS HE HG HZ HLn
      generalize cardsv D = Q at HQi HO hql
      go_wp2_with fail
      refine (HQi.out _ zo RO.out).mono ?_
      rintro e w7 ⟨v, rfl, hq, hb⟩
      obtain ⟨gq, cq, rfl, hrq, zq, _, _⟩ := hq.open
      have RQ := Lib.hid hrq
      replace O := Lib.hid (O.out.keep hb)
      replace R := Lib.hid (R.out.below hb zg5)
      replace B := Lib.hid (btE B.out hb)
      have zg7 := Nat.lt_of_lt_of_le zg5 hb.size
      clear hb hq hrq
      have HMi := Lib.hid (HM.out Q Q.length gq cq _ rfl (by omega) zq zg7 RQ.out R.out)
      clear HM
      generalize decide (Q = C) = b2 at HMi HO
      go_wp2_with fail
      refine HMi.out.mono ?_
      rintro e w8 ⟨rfl, hb⟩
      replace O := Lib.hid (O.out.keep hb)
      replace B := Lib.hid (btE B.out hb)
      clear hb
      cases b2 with
      | false =>
        have HF : Hid (ok = false) := Lib.hid HO.out
        have HF2 : Hid (r = []) := Lib.hid (by rw [HV.out, HF.out]; rfl)
        go_wp2_with fail
        go_ret2
        exact ⟨_, by rw [HF.out]; rfl, by rw [HF2.out]; exact OwnE.lit B.out.size, B.out.alloc B.out.size _⟩
      | true =>
        have HF : Hid (ok = true) := Lib.hid HO.out
        have HF2 : Hid (r = D) := Lib.hid (by rw [HV.out, HF.out]; rfl)
        go_wp2_with fail
        go_ret2
        exact ⟨_, by rw [HF.out]; rfl, by rw [HF2.out]; exact O.out, B.out⟩
end Go.Proofs.Ytpimeekcnndhiaa

/- The law laws.FnExactEntriesOf returns true. -/
namespace Go.Proofs.Ytpimeekcnndhiaa
open Go.ChangeShapes Go.WideShapes Go.ChangeAt Go.RowKit Go.Deep

set_option maxHeartbeats 3200000 in
set_option maxRecDepth 8000 in
theorem entriesOf_law (a0 : Option Addr) (len0 cap0 : Nat) (es0 : List Card) (w : World) (hR0 : IsRowC w a0 len0 cap0 es0) :
    Calls Try.prog 4 #[.slice a0 len0 cap0] w fun e w' => e = .returned (.bool true) ∧ Below w.heap.size w w' := by
  have HS0 := Lib.hid (fun left w h h0 h1 => szCardS_any a0 len0 cap0 es0 left w h h0 h1)
  have HR0 := Lib.hid hR0
  have HT0 := Lib.hid (fun w h hl => toCardS_own a0 len0 cap0 es0 w h hl)
  have HL0 := Lib.hid hR0.take_len
  have HZ0 := Lib.hid (fun left r hr h0 => sz_factsC (left := left) (r := r) hR0 hr h0)
  have HWf : Hid (∀ c ∈ es0.take len0, c.wf) := Lib.hid (rowC_wf hR0)
  clear hR0
  have B : Hid (Below w.heap.size w w) := Lib.hid (Below.refl _ _)
  go_enter Try.func4, Try.ntmps4
  go_wp2_with fail
  refine (HS0.out _ _ (HR0.out.below B.out) (by omega) (by omega)).mono ?_
  rintro e v0 ⟨⟨r0, rfl, hr⟩, hb⟩
  replace B := Lib.hid (btE B.out hb)
  have hz0 := HZ0.out _ r0 hr
  clear hb hr HS0 HZ0
  by_cases hr0 : r0 < 0
  · go_wp2_with fail
    go_ret
    exact ⟨rfl, B.out⟩
  replace hz0 := hz0 (by omega)
  have hlen0 : len0 ≤ 1048576 := by omega
  have htot0 : totC (es0.take len0) ≤ 1048576 := by omega
  clear hz0
  have hwf := HWf.out
  clear HWf
  have HS := Lib.hid (fun g w hg h1 => entriesOf_spec (es0.take len0) len0 g len0 w HL0.out.symm (by omega) (Nat.le_refl _) hg (smallC_of htot0 (by omega)) hwf h1)
  have HI := Lib.hid (fun g w hg h1 => entriesOf_impl (es0.take len0) len0 g len0 w HL0.out.symm (by omega) (Nat.le_refl _) hg (smallC_of htot0 (by omega)) hwf h1)
  have HQ0 := Lib.hid (fun g g2 w hg hg2 h1 h2 => eqCardS_any (es0.take len0) len0 g g2 len0 len0 w HL0.out.symm (by omega) hg hg2 h1 h2)
  have hD : (entriesv (es0.take len0)).length ≤ 2097152 := (by have := entriesv_le (es0.take len0); have := HL0.out; omega)
  generalize entriesv (es0.take len0) = D at HS HI hD
  generalize okS (es0.take len0) = d2 at HS HI
  have qe : (d2 != d2) = false := by simp
  have hEL0 := HL0.out
  generalize es0.take len0 = L0 at HT0 HS HI HQ0 hEL0
  clear htot0 HL0
  have HE := Lib.hid (fun g g2 ca cb w hg hg2 h1 h2 => eqEntryS_any D D.length g g2 ca cb w rfl (by omega) hg hg2 h1 h2)
  have HM := Lib.hid (fun g ca base w h => markEntryS_any D.length g ca 1 base (entVals D) w (by omega) (by omega) h)
  have HH := Lib.hid (fun g ca w hg h => heldEntryS_any D.length g ca 1 w (by omega) (by omega) hg h)
  have qm : ¬ ((1 + D.length * 10 : Nat) : Int) < 0 := by omega
  have HX0 := Lib.hid (fun g ca base xs w h => markCardS_any len0 g ca (1) base xs w (by omega) (by omega) h)
  have qk : ¬ ((1 + len0 * 8 : Nat) : Int) < 0 := by omega
  have qk2 : decide (((1 + len0 * 8 : Nat) : Int) < 0) = false := decide_eq_false qk
  go_wp2_with fail
  refine (HT0.out _ (HR0.out.below B.out) hlen0).mono ?_
  rintro e w2 ⟨rfl, ho, hb⟩
  have Ra0 := Lib.hid ho.row.1
  have za0 := ho.row.2.1
  clear ho
  replace B := Lib.hid (btE B.out hb)
  clear hb
  generalize hgena0 : v0.heap.size = ga0 at *
  clear hgena0
  go_wp2_with fail
  refine (HS.out _ _ za0 Ra0.out).mono ?_
  rintro e w3 ⟨v, rfl, ho, hb⟩
  obtain ⟨gw, cw, rfl, hr, zw, hbase, _, hown⟩ := ho.open
  have Rw := Lib.hid hr
  clear ho hr hown hbase
  clear Ra0 za0
  replace B := Lib.hid (btE B.out hb)
  clear hb
  go_wp2_with fail
  refine (HT0.out _ (HR0.out.below B.out) hlen0).mono ?_
  rintro e w4 ⟨rfl, ho, hb⟩
  have Ox0 := Lib.hid ho
  have nwx0 : gw < w3.heap.size := zw
  have wgx0 : w.heap.size ≤ w3.heap.size := B.out.size
  have Rx0 := Lib.hid ho.row.1
  have zx0 := ho.row.2.1
  clear ho
  replace B := Lib.hid (btE B.out hb)
  replace Rw := Lib.hid (Rw.out.below hb zw)
  replace zw := Nat.lt_of_lt_of_le zw hb.size
  clear hb
  generalize hgenx0 : w3.heap.size = gx0 at *
  clear hgenx0
  go_wp2_with fail
  refine (HI.out _ _ zx0 Rx0.out).mono ?_
  rintro e w5 ⟨v2, rfl, ho, hb⟩
  obtain ⟨gg, cg, rfl, hr, zg, hbase, _, hown⟩ := ho.open
  have Rg := Lib.hid hr
  have nx0g : gx0 < gg := Nat.lt_of_lt_of_le zx0 hbase
  have Og := Lib.hid hown
  clear ho hr hown hbase
  replace B := Lib.hid (btE B.out hb)
  replace Ox0 := Lib.hid (Ox0.out.keep hb)
  replace Rw := Lib.hid (Rw.out.below hb zw)
  replace zw := Nat.lt_of_lt_of_le zw hb.size
  replace Rx0 := Lib.hid (Rx0.out.below hb zx0)
  replace zx0 := Nat.lt_of_lt_of_le zx0 hb.size
  clear hb
  go_wp2_with fail
  refine (HE.out gg gw cg cw _ zg zw Rg.out Rw.out).mono ?_
  rintro e w6 ⟨rfl, hb⟩
  replace B := Lib.hid (btE B.out hb)
  replace Ox0 := Lib.hid (Ox0.out.keep hb)
  replace Og := Lib.hid (own_below Og.out hb)
  replace Rw := Lib.hid (Rw.out.below hb zw)
  replace zw := Nat.lt_of_lt_of_le zw hb.size
  replace Rx0 := Lib.hid (Rx0.out.below hb zx0)
  replace zx0 := Nat.lt_of_lt_of_le zx0 hb.size
  replace Rg := Lib.hid (Rg.out.below hb zg)
  replace zg := Nat.lt_of_lt_of_le zg hb.size
  clear hb
  go_wp2_with fail
  refine (HT0.out _ (HR0.out.below B.out) hlen0).mono ?_
  rintro e w7 ⟨rfl, ho, hb⟩
  have Rb0 := Lib.hid ho.row.1
  have zb0 := ho.row.2.1
  clear ho
  replace B := Lib.hid (btE B.out hb)
  replace Ox0 := Lib.hid (Ox0.out.keep hb)
  replace Og := Lib.hid (own_below Og.out hb)
  replace Rw := Lib.hid (Rw.out.below hb zw)
  replace zw := Nat.lt_of_lt_of_le zw hb.size
  replace Rx0 := Lib.hid (Rx0.out.below hb zx0)
  replace zx0 := Nat.lt_of_lt_of_le zx0 hb.size
  replace Rg := Lib.hid (Rg.out.below hb zg)
  replace zg := Nat.lt_of_lt_of_le zg hb.size
  clear hb
  generalize hgenb0 : w6.heap.size = gb0 at *
  clear hgenb0
  go_wp2_with fail
  refine (HQ0.out gx0 _ _ zx0 zb0 Rx0.out Rb0.out).mono ?_
  rintro e w8 ⟨rfl, hb⟩
  replace B := Lib.hid (btE B.out hb)
  replace Ox0 := Lib.hid (Ox0.out.keep hb)
  replace Og := Lib.hid (own_below Og.out hb)
  replace Rw := Lib.hid (Rw.out.below hb zw)
  replace zw := Nat.lt_of_lt_of_le zw hb.size
  replace Rx0 := Lib.hid (Rx0.out.below hb zx0)
  replace zx0 := Nat.lt_of_lt_of_le zx0 hb.size
  replace Rg := Lib.hid (Rg.out.below hb zg)
  replace zg := Nat.lt_of_lt_of_le zg hb.size
  replace Rb0 := Lib.hid (Rb0.out.below hb zb0)
  replace zb0 := Nat.lt_of_lt_of_le zb0 hb.size
  clear hb
  clear Rb0 zb0
  have hox := Ox0.out.1
  rw [hEL0] at hox
  have hxb := (World.ownsRow.lt hox gx0 rfl).1
  go_wp2_with fail
  refine (HX0.out gx0 len0 _ _ _ hox).mono ?_
  rintro e w9 ⟨rfl, _, _, hg⟩
  clear Ox0 Rx0 zx0 hox
  replace B : Hid (Below w.heap.size w w9) := Lib.hid (B.out.grown hg B.out.size (fun k hk => by cases hk; omega))
  replace Rw := Lib.hid (Rw.out.grown hg (someNe (by omega)))
  replace zw := Nat.lt_of_lt_of_le zw hg.size
  replace Rg := Lib.hid (Rg.out.grown hg (someNe (by omega)))
  replace zg := Nat.lt_of_lt_of_le zg hg.size
  replace Og := Lib.hid (World.ownsRow.kept Og.out hg (.inr (by simpa [Value.ownBlock] using (show gg ≠ gx0 by omega))))
  clear hg hxb
  go_wp2_with fail
  refine (HE.out gg gw cg cw _ zg zw Rg.out Rw.out).mono ?_
  rintro e w10 ⟨rfl, hb⟩
  replace B := Lib.hid (btE B.out hb)
  replace Og := Lib.hid (own_below Og.out hb)
  replace Rw := Lib.hid (Rw.out.below hb zw)
  replace zw := Nat.lt_of_lt_of_le zw hb.size
  replace Rg := Lib.hid (Rg.out.below hb zg)
  replace zg := Nat.lt_of_lt_of_le zg hb.size
  clear hb
  go_wp2_with fail
  refine (HM.out gg cg _ _ Og.out).mono ?_
  rintro e w11 ⟨rfl, _, hrm, hg⟩
  replace B : Hid (Below w.heap.size w w11) := Lib.hid (B.out.grown hg B.out.size (fun k hk => by cases hk; omega))
  replace Rw := Lib.hid (Rw.out.grown hg (someNe (by omega)))
  replace zw := Nat.lt_of_lt_of_le zw hg.size
  clear Rg Og
  have Rg := Lib.hid hrm
  replace zg := Nat.lt_of_lt_of_le zg hg.size
  clear hg hrm
  go_wp2_with fail
  refine (HH.out gg cg _ zg Rg.out).mono ?_
  rintro e w12 ⟨rfl, hb⟩
  replace B := Lib.hid (btE B.out hb)
  replace Rw := Lib.hid (Rw.out.below hb zw)
  replace zw := Nat.lt_of_lt_of_le zw hb.size
  replace Rg := Lib.hid (Rg.out.below hb zg)
  replace zg := Nat.lt_of_lt_of_le zg hb.size
  clear hb
  go_wp2_with fail
  refine (HT0.out _ (HR0.out.below B.out) hlen0).mono ?_
  rintro e w13 ⟨rfl, ho, hb⟩
  have Rc0 := Lib.hid ho.row.1
  have zc0 := ho.row.2.1
  clear ho
  replace B := Lib.hid (btE B.out hb)
  replace Rw := Lib.hid (Rw.out.below hb zw)
  replace zw := Nat.lt_of_lt_of_le zw hb.size
  replace Rg := Lib.hid (Rg.out.below hb zg)
  replace zg := Nat.lt_of_lt_of_le zg hb.size
  clear hb
  generalize hgenc0 : w12.heap.size = gc0 at *
  clear hgenc0
  go_wp2_with fail
  refine (HI.out _ _ zc0 Rc0.out).mono ?_
  rintro e w14 ⟨v3, rfl, ho, hb⟩
  clear Rc0 zc0
  obtain ⟨gh, ch, rfl, hr, zh, hbase, _, hown⟩ := ho.open
  have Rh := Lib.hid hr
  clear ho hr hown hbase
  replace B := Lib.hid (btE B.out hb)
  replace Rw := Lib.hid (Rw.out.below hb zw)
  replace zw := Nat.lt_of_lt_of_le zw hb.size
  replace Rg := Lib.hid (Rg.out.below hb zg)
  replace zg := Nat.lt_of_lt_of_le zg hb.size
  clear hb
  go_wp2_with fail
  refine (HE.out gh gw ch cw _ zh zw Rh.out Rw.out).mono ?_
  rintro e w15 ⟨rfl, hb⟩
  replace B := Lib.hid (btE B.out hb)
  replace Rw := Lib.hid (Rw.out.below hb zw)
  replace zw := Nat.lt_of_lt_of_le zw hb.size
  replace Rg := Lib.hid (Rg.out.below hb zg)
  replace zg := Nat.lt_of_lt_of_le zg hb.size
  replace Rh := Lib.hid (Rh.out.below hb zh)
  replace zh := Nat.lt_of_lt_of_le zh hb.size
  clear hb
  go_wp2_with fail
  refine (HH.out gg cg _ zg Rg.out).mono ?_
  rintro e w16 ⟨rfl, hb⟩
  replace B := Lib.hid (btE B.out hb)
  replace Rw := Lib.hid (Rw.out.below hb zw)
  replace zw := Nat.lt_of_lt_of_le zw hb.size
  replace Rg := Lib.hid (Rg.out.below hb zg)
  replace zg := Nat.lt_of_lt_of_le zg hb.size
  replace Rh := Lib.hid (Rh.out.below hb zh)
  replace zh := Nat.lt_of_lt_of_le zh hb.size
  clear hb
  go_wp2_with fail
  go_ret
  exact ⟨rfl, B.out⟩
end Go.Proofs.Ytpimeekcnndhiaa
