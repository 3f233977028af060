/- Contract of impl.spread: the places that a star reaches from one on are added to a set that has gone on by the same star. -/
import Derived.Test.YthembgllkfgknaaSets
import Derived.Test.YthembgllkfgknaaGlobMath
namespace Go.Proofs.Ythembgllkfgknaa
open Go.RowKit Go.Maps

/-- A star has gone on from each place of T. -/
def Closed (s : ByteArray) (wide : Bool) (n : Nat) (T : Nat → Prop) : Prop := ∀ k, T k → k < n → stOk s wide k = true → T (k + 1)
def Reach (s : ByteArray) (wide : Bool) (n a k : Nat) : Prop := a ≤ k ∧ k ≤ n ∧ ∀ j, a ≤ j → j < k → stOk s wide j = true
theorem Closed.go {s : ByteArray} {wide : Bool} {n : Nat} {T : Nat → Prop} (h : Closed s wide n T) {p : Nat} (hp : T p) : ∀ k, p ≤ k → k ≤ n → (∀ j, p ≤ j → j < k → stOk s wide j = true) → T k := by
  intro k
  induction k with
  | zero => intro h1 _ _; have : p = 0 := by omega
            subst this; exact hp
  | succ k ih =>
    intro h1 h2 h3
    by_cases e : p = k + 1
    · subst e; exact hp
    · exact h k (ih (by omega) (by omega) (fun j a b => h3 j a (by omega))) (by omega) (h3 k (by omega) (by omega))
/-- What the set is when place p is met, the places from a up to p having been added. -/
def Upto (T : Nat → Prop) (a p k : Nat) : Prop := T k ∨ (a ≤ k ∧ k < p)
def After (s : ByteArray) (wide : Bool) (n : Nat) (T : Nat → Prop) (a k : Nat) : Prop := T k ∨ Reach s wide n a k
theorem upto_there {s : ByteArray} {wide : Bool} {n : Nat} {T : Nat → Prop} {a p : Nat} (hc : Closed s wide n T) (hp : T p) (hpn : p ≤ n) (hap : a ≤ p) (hst : ∀ j, a ≤ j → j < p → stOk s wide j = true) (k : Nat) : Upto T a p k ↔ After s wide n T a k := by
  constructor
  · rintro (h | ⟨h1, h2⟩)
    · exact .inl h
    · exact .inr ⟨h1, by omega, fun j x y => hst j x (by omega)⟩
  · rintro (h | ⟨h1, h2, h3⟩)
    · exact .inl h
    · by_cases e : k < p
      · exact .inr ⟨h1, e⟩
      · exact .inl (hc.go hp k (by omega) h2 (fun j x y => h3 j (by omega) y))
theorem upto_stop {s : ByteArray} {wide : Bool} {n : Nat} {T : Nat → Prop} {a p : Nat} (hap : a ≤ p) (hpn : p ≤ n) (hst : ∀ j, a ≤ j → j < p → stOk s wide j = true) (he : p = n ∨ stOk s wide p = false) (k : Nat) : Upto T a (p + 1) k ↔ After s wide n T a k := by
  constructor
  · rintro (h | ⟨h1, h2⟩)
    · exact .inl h
    · exact .inr ⟨h1, by omega, fun j x y => hst j x (by omega)⟩
  · rintro (h | ⟨h1, h2, h3⟩)
    · exact .inl h
    · refine .inr ⟨h1, ?_⟩
      rcases he with he | he
      · omega
      · rcases Nat.lt_or_ge k (p + 1) with h' | h'
        · exact h'
        · rw [h3 p hap (by omega)] at he; cases he
theorem upto_put (T : Nat → Prop) {a p : Nat} (hap : a ≤ p) (k : Nat) : (Upto T a p k ∨ k = p) ↔ Upto T a (p + 1) k := by
  constructor
  · rintro ((h | h) | h)
    · exact .inl h
    · exact .inr (by omega)
    · exact .inr (by omega)
  · rintro (h | h)
    · exact .inl (.inl h)
    · by_cases e : k = p
      · exact .inr e
      · exact .inl (.inr (by omega))
theorem stOk_f {s : ByteArray} {wide : Bool} {p : Nat} (h : p < s.size) (hw : wide = false) (hc : (s[p].toNat : Int) = 47) : stOk s wide p = false := by
  have e : s[p].toNat = 47 := by omega
  simp [stOk, hw, bangG s p h, e]
theorem stOk_t {s : ByteArray} {wide : Bool} {p : Nat} (h : p < s.size) (hc : wide = true ∨ ¬ (s[p].toNat : Int) = 47) : stOk s wide p = true := by
  rcases hc with rfl | hc
  · simp [stOk]
  · have e : ¬ s[p].toNat = 47 := by omega
    simp [stOk, bangG s p h, e]

theorem spread_any (star s : ByteArray) (b a : Nat) (T : Nat → Prop) (w : World) (hn : s.size ≤ 300) (ha : a ≤ s.size) (hset : SetAt w b s.size T) (hcl : Closed s (isWide star) s.size T) :
    Calls Try.prog 53 #[.string star, .string s, .int .i64 a, .map (some b)] w fun e w' => e = .returned (.tuple #[]) ∧ SetAt w' b s.size (After s (isWide star) s.size T a) ∧ w.grownBy w' (some b) := by
  have HS := Lib.hid hset
  have HCL := Lib.hid hcl
  clear hset hcl
  go_enter Try.func53, Try.ntmps53
  go_wp2
  go_loopw [2] (fun u wr => ∃ (p : Nat), a ≤ p ∧ p ≤ s.size ∧ u = .int .i64 p ∧ (∀ j, a ≤ j → j < p → stOk s (isWide star) j = true) ∧ SetAt wr b s.size (Upto T a p) ∧ w.grownBy wr (some b)) (fun u _ => s.size + 1 - (intOf u).toNat)
  case atStart => exact ⟨a, Nat.le_refl _, ha, rfl, fun j _ _ => by omega, HS.out.congr (fun k => ⟨.inl, fun h => h.elim id (fun h => by omega)⟩), World.grownBy.refl _ _⟩
  case round =>
    obtain ⟨p, hap, hps, rfl, hst, ⟨D, hown, hD⟩, hg⟩ := hrel
    have HST := Lib.hid hst
    have HO := Lib.hid hown
    have HD := Lib.hid hD
    have HG := Lib.hid hg
    clear hst hown hD hg
    have hkey := keyI (k := p) (by omega)
    by_cases hT : T p
    · have hh := HD.out.has_t (k := p) (.inl hT)
      go_wp2_with (at_lookup; refine wpList_lookup_own_unit _ rfl _ _ 50 rfl 3 48 lawI Try.underlying50 (zeroU _) b (s.size + 1) _ rfl HO.out _ _ rfl hkey ?_)
      refine bodyPost_ret (results_none rfl _ _ _) rfl ?_
      exact ⟨rfl, ⟨D, World.ownsMap.alloc HO.out _, HD.out.congr (upto_there HCL.out hT hps hap HST.out)⟩, gtr HG.out (World.grownBy_alloc _ _ _)⟩
    · have hh := HD.out.has_f (k := p) (fun h => h.elim hT (fun h => by omega))
      clear hT
      have FIN : Hid (∀ w1 : World, w1.ownsMap Try.prog 3 (unitElem (H := Unit)) b (s.size + 1 + 1) (D.put (.int .i64 (p : Int)) (.agg [])) → SetAt w1 b s.size (Upto T a (p + 1))) := Lib.hid (fun w1 h1 => by
        have h2 : SetIs (D.put (.int .i64 (p : Int)) (.agg [])) s.size (Upto T a (p + 1)) := (HD.out.put (World.ownsMap.isMap HO.out) hps _).congr (upto_put T hap)
        exact ⟨_, set_size h1 h2, h2⟩)
      have hmx : s.size + 1 < maxLen := by simp only [maxLen]; omega
      by_cases hpn : p = s.size
      · have q1 : ((p : Int) == (s.size : Int)) = true := by simp [hpn]
        have HE := Lib.hid (upto_stop (T := T) hap hps HST.out (.inl hpn))
        clear hpn
        go_wp2_with (first
          | (at_lookup; refine wpList_lookup_own_unit _ rfl _ _ 50 rfl 3 48 lawI Try.underlying50 (zeroU _) b (s.size + 1) _ rfl HO.out _ _ rfl hkey ?_)
          | (at_mapUpdate; refine wpList_mapUpdate_own _ rfl _ _ _ 50 rfl 3 48 lawI Try.underlying50 (unitElem (H := Unit)) b (s.size + 1) _ rfl (World.ownsMap.alloc HO.out _) hmx _ _ _ rfl rfl hkey _ [] unitElem_mk ?_; intro w1 hown1 hgrow1; have W1 := Lib.hid (FIN.out w1 hown1); have G1 := Lib.hid (gtr (gtr HG.out (World.grownBy_alloc _ _ _)) hgrow1); clear hown1 hgrow1))
        refine bodyPost_ret (results_none rfl _ _ _) rfl ?_
        exact ⟨rfl, W1.out.congr HE.out, G1.out⟩
      · have q1 : ((p : Int) == (s.size : Int)) = false := by simp; omega
        have hlt : p < s.size := by omega
        clear hpn
        by_cases hw : star = ⟨#[42]⟩
        · have q2 := lit_eq (l := [42]) hw
          have hwd : isWide star = false := by simp [isWide, hw]
          clear hw
          by_cases hc : (s[p].toNat : Int) = 47
          · have q3 : ((s[p].toNat : Int) == 47) = true := by simp [hc]
            have HE := Lib.hid (upto_stop (T := T) hap hps HST.out (.inr (stOk_f hlt hwd hc)))
            clear hc hwd
            go_wp2_with (first
              | (at_lookup; refine wpList_lookup_own_unit _ rfl _ _ 50 rfl 3 48 lawI Try.underlying50 (zeroU _) b (s.size + 1) _ rfl HO.out _ _ rfl hkey ?_)
              | (at_mapUpdate; refine wpList_mapUpdate_own _ rfl _ _ _ 50 rfl 3 48 lawI Try.underlying50 (unitElem (H := Unit)) b (s.size + 1) _ rfl (World.ownsMap.alloc HO.out _) hmx _ _ _ rfl rfl hkey _ [] unitElem_mk ?_; intro w1 hown1 hgrow1; have W1 := Lib.hid (FIN.out w1 hown1); have G1 := Lib.hid (gtr (gtr HG.out (World.grownBy_alloc _ _ _)) hgrow1); clear hown1 hgrow1))
            refine bodyPost_ret (results_none rfl _ _ _) rfl ?_
            exact ⟨rfl, W1.out.congr HE.out, G1.out⟩
          · have q3 : ((s[p].toNat : Int) == 47) = false := by simpa using hc
            have HN : Hid (∀ j, a ≤ j → j < p + 1 → stOk s (isWide star) j = true) := Lib.hid (fun j h1 h2 => by
              by_cases e : j = p
              · subst e; exact stOk_t hlt (.inr hc)
              · exact HST.out j h1 (by omega))
            clear hc hwd
            go_wp2_with (first
              | (at_lookup; refine wpList_lookup_own_unit _ rfl _ _ 50 rfl 3 48 lawI Try.underlying50 (zeroU _) b (s.size + 1) _ rfl HO.out _ _ rfl hkey ?_)
              | (at_mapUpdate; refine wpList_mapUpdate_own _ rfl _ _ _ 50 rfl 3 48 lawI Try.underlying50 (unitElem (H := Unit)) b (s.size + 1) _ rfl (World.ownsMap.alloc HO.out _) hmx _ _ _ rfl rfl hkey _ [] unitElem_mk ?_; intro w1 hown1 hgrow1; have W1 := Lib.hid (FIN.out w1 hown1); have G1 := Lib.hid (gtr (gtr HG.out (World.grownBy_alloc _ _ _)) hgrow1); clear hown1 hgrow1))
            go_roundw
            case rel => exact ⟨p + 1, by omega, by omega, by go_num, HN.out, W1.out, G1.out⟩
            case measure => simp [intOf]; omega
        · have q2 := lit_ne (l := [42]) hw
          have hwd : isWide star = true := by simp [isWide, hw]
          have HN : Hid (∀ j, a ≤ j → j < p + 1 → stOk s (isWide star) j = true) := Lib.hid (fun j h1 h2 => by
            by_cases e : j = p
            · subst e; exact stOk_t hlt (.inl hwd)
            · exact HST.out j h1 (by omega))
          clear hw hwd
          go_wp2_with (first
            | (at_lookup; refine wpList_lookup_own_unit _ rfl _ _ 50 rfl 3 48 lawI Try.underlying50 (zeroU _) b (s.size + 1) _ rfl HO.out _ _ rfl hkey ?_)
            | (at_mapUpdate; refine wpList_mapUpdate_own _ rfl _ _ _ 50 rfl 3 48 lawI Try.underlying50 (unitElem (H := Unit)) b (s.size + 1) _ rfl (World.ownsMap.alloc HO.out _) hmx _ _ _ rfl rfl hkey _ [] unitElem_mk ?_; intro w1 hown1 hgrow1; have W1 := Lib.hid (FIN.out w1 hown1); have G1 := Lib.hid (gtr (gtr HG.out (World.grownBy_alloc _ _ _)) hgrow1); clear hown1 hgrow1))
          go_roundw
          case rel => exact ⟨p + 1, by omega, by omega, by go_num, HN.out, W1.out, G1.out⟩
          case measure => simp [intOf]; omega
end Go.Proofs.Ythembgllkfgknaa
