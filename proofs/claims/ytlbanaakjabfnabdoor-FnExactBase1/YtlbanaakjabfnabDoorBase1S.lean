/- Contract of spec.Base1. -/
import Derived.Test.YtlbanaakjabfnabDoorShortS
import Derived.Deep.DeepCutAuto
import Derived.OwnWalk
namespace Go.Proofs.YtlbanaakjabfnabDoor
open Go.ChangeShapes Go.WideShapes Go.ChangeAt Go.RowKit Go.Deep

/-- What the walk keeps: the records so far, the entry as it is, the argument's box and the result's. -/
def B1 (w wx : World) (gx : Nat) (v : Value) (L : List Rec) (x e : Ent) : Prop :=
  OwnR wx w.heap.size v L ∧ EntO wx gx x ∧ EntO wx w.heap.size e ∧ EntO wx (w.heap.size + 1) ⟨0, ⟨#[]⟩, ⟨#[]⟩, 0, 0, 0, 0, ⟨#[]⟩, ⟨#[]⟩, ⟨#[]⟩⟩ ∧ Below w.heap.size w wx ∧ w.heap.size + 1 < gx
theorem own_neE {w : World} {base n g : Nat} {v : Value} {xs : List Value} {e : Ent} (ho : w.ownsRow base 44 2 v n xs) (hg : EntO w g e) : some g ≠ v.ownBlock := by
  rcases ho.2 with ⟨rfl, _⟩ | ⟨g', cap, cur, rfl, _, hc, _⟩
  · simp [Value.ownBlock]
  · simp only [Value.ownBlock]
    intro h
    obtain rfl : g = g' := Option.some.inj h
    unfold EntO at hg
    rw [hg] at hc
    simp only [Option.some.injEq, Obj.cells.injEq] at hc
    exact absurd hc.2.1 (by decide)
theorem B1.below {w wx wy : World} {gx : Nat} {v : Value} {L : List Rec} {x e : Ent} (h : B1 w wx gx v L x e) (hb : Below wx.heap.size wx wy) : B1 w wy gx v L x e := by
  obtain ⟨o, a, b, c, d, z⟩ := h
  exact ⟨o.keep hb, a.below hb a.lt, b.below hb b.lt, c.below hb c.lt, btE d hb, z⟩
theorem B1.app {w wx w6 : World} {gx : Nat} {v v' : Value} {L : List Rec} {x e : Ent} {r : Rec} {t : TypeId} (h : B1 w wx gx v L x e) (hown : w6.ownsRow w.heap.size 44 2 v' (L.length + 1) (valsR L ++ valsR [r])) (hgrow : (wx.alloc (.cells r.cells.toArray t)).grownBy w6 v.ownBlock) (hnil : ¬ v' = .slice none 0 0) : B1 w w6 gx v' (L ++ [r]) x e := by
  obtain ⟨o, a, b, c, d, z⟩ := h
  have hb : Below wx.heap.size wx (wx.alloc (.cells r.cells.toArray t)) := (Below.refl _ _).alloc (Nat.le_refl _) _
  refine ⟨own_appR hown rfl rfl hnil, (a.below hb a.lt).grown hgrow (own_neE o.1 a), (b.below hb b.lt).grown hgrow (own_neE o.1 b), (c.below hb c.lt).grown hgrow (own_neE o.1 c), ?_, z⟩
  exact (d.alloc d.size _).grown hgrow (by have := d.size; simp; omega) (fun b hb => (World.ownsRow.lt o.1 b hb).1)
theorem B1.store {w wx : World} {gx : Nat} {v : Value} {L : List Rec} {x x' e : Ent} (h : B1 w wx gx v L x e) (i : Nat) (y : Value) (hx : x.cells.toArray.setIfInBounds i y = x'.cells.toArray) : B1 w (wx.setCell ⟨gx, i, none⟩ y) gx v L x' e := by
  obtain ⟨o, a, b, c, d, z⟩ := h
  have hne := own_neE o.1 a
  obtain ⟨ho, gl, cap, rfl⟩ := o
  refine ⟨OwnR.kept ⟨ho, gl, cap, rfl⟩ (grown_setO (grown_reflO wx (some gx)) i y) (fun e => hne (by rw [← e]; rfl)), a.set i y hx, b.other (by omega), c.other (by omega), d.setCell (p := ⟨gx, i, none⟩) (show w.heap.size ≤ gx by omega) _, z⟩
theorem B1.ok {w wx : World} {gx : Nat} {v : Value} {L : List Rec} {x e : Ent} (h : B1 w wx gx v L x e) : OwnR wx w.heap.size v L ∧ EntAt wx gx 0 x ∧ EntAt wx w.heap.size 0 e ∧ (∀ i, wx.frozen? ⟨gx, i, none⟩ = false) ∧ gx < wx.heap.size ∧ w.heap.size < wx.heap.size := ⟨h.1, h.2.1.at, h.2.2.1.at, h.2.1.fz, h.2.1.lt, h.2.2.1.lt⟩
set_option maxHeartbeats 6400000 in
set_option maxRecDepth 8000 in
theorem base1_spec (k : Int) (p l : ByteArray) (m u g t : Int) (us gr b : ByteArray) (w : World) (hp : p.size ≤ 4194304) (hl : l.size ≤ 4194304) (hus : us.size ≤ 4194304) (hgr : gr.size ≤ 4194304) (hbz : b.size ≤ 4194304) (hu0 : -9223372036854775808 ≤ u) (hu1 : u ≤ 9223372036854775807) (hg0 : -9223372036854775808 ≤ g) (hg1 : g ≤ 9223372036854775807) (ht0 : -9223372036854775808 ≤ t) (ht1 : t ≤ 9223372036854775807) :
    Calls Tryd.prog 6 #[.agg #[.int .i64 k, .string p, .string l, .int .i64 m, .int .i64 u, .int .i64 g, .int .i64 t, .string us, .string gr, .string b]] w fun e w' => (∃ v, e = .returned (.tuple #[.agg (base1E ⟨k, p, l, m, u, g, t, us, gr, b⟩).cells.toArray, v]) ∧ OwnR w' w.heap.size v (base1L ⟨k, p, l, m, u, g, t, us, gr, b⟩)) ∧ Below w.heap.size w w' := by
  obtain ⟨i0, hi0, hz0, hz1, hz2⟩ := info_parts Tryd.infoR
  have H1 := Lib.hid (fun w => entryOk_spec k p l m u g t us gr b w hp hl hus hgr hbz)
  have H2 := Lib.hid (fun w => split_spec p w hp)
  have H3 := Lib.hid (fun w => base_spec p w (by omega))
  have HE : Hid (base1E ⟨k, p, l, m, u, g, t, us, gr, b⟩ = if entOkv ⟨k, p, l, m, u, g, t, us, gr, b⟩ then ⟨k, b1p p, b2l k (b1p p) l, m, bn 2097151 u, bn 2097151 g, bn 8589934591 t, us, gr, b⟩ else ⟨0, ⟨#[]⟩, ⟨#[]⟩, 0, 0, 0, 0, ⟨#[]⟩, ⟨#[]⟩, ⟨#[]⟩⟩) := Lib.hid rfl
  have HL : Hid (base1L ⟨k, p, l, m, u, g, t, us, gr, b⟩ = if entOkv ⟨k, p, l, m, u, g, t, us, gr, b⟩ then bnL kTime 8589934591 t (bnL kGid 2097151 g (bnL kUid 2097151 u (b2L k (b1p p) l (b1L p)))) else []) := Lib.hid rfl
  generalize base1E ⟨k, p, l, m, u, g, t, us, gr, b⟩ = rE at HE
  generalize base1L ⟨k, p, l, m, u, g, t, us, gr, b⟩ = rL at HL
  generalize entOkv ⟨k, p, l, m, u, g, t, us, gr, b⟩ = ok at H1 HE HL
  go_enter Tryd.func6, Tryd.ntmps6
  go_wp2_with fail
  refine (H1.out _).mono ?_
  rintro e w1 ⟨rfl, hb⟩
  obtain ⟨e1, e2, e3, e4, e5⟩ := three_new (e := ⟨k, p, l, m, u, g, t, us, gr, b⟩) (z := ⟨0, ⟨#[]⟩, ⟨#[]⟩, 0, 0, 0, 0, ⟨#[]⟩, ⟨#[]⟩, ⟨#[]⟩⟩) hb
  have EO := Lib.hid e1
  have RO := Lib.hid e2
  have OL := Lib.hid e3
  have B := Lib.hid e4
  clear hb e1 e2 e3 e4
  obtain ⟨c0, c1, c2, c3, c4, c5, c6, c7, c8, c9⟩ := EO.out.at.zero
  cases ok with
  | false =>
    obtain ⟨d0, d1, d2, d3, d4, d5, d6, d7, d8, d9⟩ := RO.out.at.zero
    have f0 := RO.out.fz 0
    have f1 := RO.out.fz 1
    have f2 := RO.out.fz 2
    have f3 := RO.out.fz 3
    have f4 := RO.out.fz 4
    have f5 := RO.out.fz 5
    have f6 := RO.out.fz 6
    have f7 := RO.out.fz 7
    have f8 := RO.out.fz 8
    have f9 := RO.out.fz 9
    go_wp2_with fail
    have RP := RO.out.put ⟨0, ⟨#[]⟩, ⟨#[]⟩, 0, 0, 0, 0, ⟨#[]⟩, ⟨#[]⟩, ⟨#[]⟩⟩
    have BP := below_putE (g := w.heap.size + 1) B.out (by omega) ⟨0, ⟨#[]⟩, ⟨#[]⟩, 0, 0, 0, 0, ⟨#[]⟩, ⟨#[]⟩, ⟨#[]⟩⟩
    have OP := OwnR.kept (w' := putE w1 (w.heap.size + 1) ⟨0, ⟨#[]⟩, ⟨#[]⟩, 0, 0, 0, 0, ⟨#[]⟩, ⟨#[]⟩, ⟨#[]⟩⟩) OL.out (row := some (w.heap.size + 1)) (grown_putE w1 _ _) (fun e => by have := Option.some.inj e; omega)
    simp only [putE] at RP BP OP
    refine bodyPost_ret (res_ent2 rfl _ rfl RP) rfl ?_
    exact ⟨⟨_, by rw [HE.out]; rfl, by rw [HL.out]; exact OP⟩, BP⟩
  | true =>
    have zx : w.heap.size < w1.heap.size := by omega
    have hal : Below w1.heap.size w1 (w1.alloc (.cells #[.int .i64 k, .string p, .string l, .int .i64 m, .int .i64 u, .int .i64 g, .int .i64 t, .string us, .string gr, .string b] 25)) := (Below.refl _ _).alloc (Nat.le_refl _) _
    have XO := Lib.hid (EntO.new w1 ⟨k, p, l, m, u, g, t, us, gr, b⟩)
    replace EO := Lib.hid (EO.out.below hal (by omega))
    replace RO := Lib.hid (RO.out.below hal (by omega))
    replace OL := Lib.hid (OL.out.keep hal)
    replace B := Lib.hid (btE B.out hal)
    have XO2 : Hid (EntO (w1.alloc (.cells #[.int .i64 k, .string p, .string l, .int .i64 m, .int .i64 u, .int .i64 g, .int .i64 t, .string us, .string gr, .string b] 25)) w1.heap.size ⟨k, p, l, m, u, g, t, us, gr, b⟩) := XO
    clear hal XO
    have cc := EO.out.at.zero
    obtain ⟨x0, x1, x2, x3, x4, x5, x6, x7, x8, x9⟩ := cc
    go_wp2_with fail
    refine (H2.out _).mono ?_
    rintro e w2 ⟨rfl, hb⟩
    replace EO := Lib.hid (EO.out.below hb EO.out.lt)
    replace RO := Lib.hid (RO.out.below hb RO.out.lt)
    replace XO2 := Lib.hid (XO2.out.below hb XO2.out.lt)
    replace OL := Lib.hid (OL.out.keep hb)
    replace B := Lib.hid (btE B.out hb)
    clear hb x0 x1 x2 x3 x4 x5 x6 x7 x8 x9 c0 c1 c2 c3 c4 c5 c6 c7 c8 c9
    generalize w1.heap.size = gx at *
    have ST : Hid (B1 w w2 gx (.slice (some ⟨w.heap.size + 2, 0, none⟩) 0 0) [] ⟨k, p, l, m, u, g, t, us, gr, b⟩ ⟨k, p, l, m, u, g, t, us, gr, b⟩) := Lib.hid ⟨OL.out, XO2.out, EO.out, RO.out, B.out, by omega⟩
    clear EO RO XO2 OL B
    -- STAGES
    have HB1 : Hid (b1p p = if splitOk p then p else basev p) := Lib.hid rfl
    have HB2 : Hid (b1L p = if splitOk p then [] else [⟨kPath, p⟩]) := Lib.hid rfl
    have hl1 := b1L_len p
    generalize splitOk p = so at HB1 HB2 ⊢
    generalize b1p p = p1 at HB1 HE HL ⊢
    generalize b1L p = L1 at HB2 HL hl1 ⊢
    go_upto_if 24 with fail
    go_cut [4] (fun v wx => B1 w wx gx v L1 ⟨k, p1, l, m, u, g, t, us, gr, b⟩ ⟨k, p, l, m, u, g, t, us, gr, b⟩)
    case first =>
      cases so with
      | true =>
        go_wp2_with fail
        go_meet
        case rel => rw [show p1 = p from HB1.out, show L1 = [] from HB2.out]; exact ST.out
      | false =>
        have hL1 : L1 = [⟨kPath, p⟩] := HB2.out
        have hp1 : p1 = basev p := HB1.out
        rw [← hp1] at H3
        subst hL1
        clear HB1 HB2 HE HL hp1
        obtain ⟨ol, xa, ea, xf, zx1, ze1⟩ := ST.out.ok
        have ow := ol.1
        have OW := Lib.hid ow
        obtain ⟨c0, c1, c2, c3, c4, c5, c6, c7, c8, c9⟩ := ea.zero
        obtain ⟨d0, d1, d2, d3, d4, d5, d6, d7, d8, d9⟩ := xa.zero
        have zB := ST.out.2.2.2.2.1.size
        clear ol ow xa ea xf
        go_wp2_with (at_builtin; refine wpList_append_own _ rfl _ _ 26 rfl w.heap.size 44 i0 (.agg #[.string ⟨#[]⟩, .string ⟨#[]⟩]) 2 32 Tryd.underlying26 hi0 hz0 hz1 hz2 rfl (by decide) _ ([] : List Rec).length (valsR ([] : List Rec)) rfl ?c0q1 ⟨w2.heap.size, 0, none⟩ 1 1 (valsR [(⟨kPath, p⟩ : Rec)]) rfl (valsR_len _) ?c1q1 ?c2q1 ?c3q1 ?c4q1 ?c5q1 ?_)
        case c0q1 => exact World.ownsRow.alloc OW.out _
        case c1q1 => intro jj uu hu; rw [valsR_one] at hu; first | exact hu | exact newR w2 (⟨kPath, p⟩ : Rec) _ jj uu (by rw [valsR_one]; exact hu)
        case c2q1 => exact valsR_onecell _
        any_goals (first | (simp only [maxLen]; omega) | omega | (simp; omega))
        intro v' w6 hown hgrow hnil
        have S6 := Lib.hid (B1.app ST.out hown hgrow hnil)
        clear ST OW hown hgrow hnil c0 c1 c2 c3 c4 c5 c6 c7 c8 c9 d0 d1 d2 d3 d4 d5 d6 d7 d8 d9
        obtain ⟨ol, xa, ea, xf, zx2, ze2⟩ := S6.out.ok
        obtain ⟨c0, c1, c2, c3, c4, c5, c6, c7, c8, c9⟩ := ea.zero
        obtain ⟨d0, d1, d2, d3, d4, d5, d6, d7, d8, d9⟩ := xa.zero
        have f1 := xf 1
        have f2 := xf 2
        have f4 := xf 4
        have f5 := xf 5
        have f6 := xf 6
        clear ol xa ea xf
        go_wp2_with fail
        refine (H3.out _).mono ?_
        rintro e w7 ⟨rfl, hw⟩
        obtain rfl : w6 = w7 := hw
        go_wp2_with fail
        go_meet
        case rel => exact S6.out.store 1 (.string p1) rfl
    case rest =>
      clear ST H2 H3 HB1 HB2
      have ST := Lib.hid hcut
      clear hcut
      have HB0 : Hid (b2c k p1 l = (decide (100 < l.size) || (decide (k = 3) && decide (l = p1)))) := Lib.hid rfl
      have HB1 : Hid (b2l k p1 l = if b2c k p1 l then shortv k p1 l else l) := Lib.hid rfl
      have HB2 : Hid (b2L k p1 l L1 = if b2c k p1 l then L1 ++ [⟨kLink, l⟩] else L1) := Lib.hid rfl
      have hl2 := b2L_len k p1 l L1
      generalize b2l k p1 l = l2 at HB1 HE ⊢
      generalize b2L k p1 l L1 = L2 at HB2 HL hl2 ⊢
      generalize b2c k p1 l = cc at HB0 HB1 HB2 ⊢
      obtain ⟨gl, cl, hvl, _, _, _, _⟩ := ST.out.1.open
      subst hvl
      obtain ⟨ol, xa, ea, xf, zx1, ze1⟩ := ST.out.ok
      have ow := ol.1
      have OW := Lib.hid ow
      obtain ⟨c0, c1, c2, c3, c4, c5, c6, c7, c8, c9⟩ := ea.zero
      obtain ⟨d0, d1, d2, d3, d4, d5, d6, d7, d8, d9⟩ := xa.zero
      have zB := ST.out.2.2.2.2.1.size
      clear ol ow xa ea xf
      go_upto_region 9 with fail
      go_cut [4, 50] (fun v4 v wx => v4 = .slice (some ⟨gl, 0, none⟩) L1.length cl ∧ v = .bool cc ∧ wx = wc)
      case first =>
        by_cases a1 : (100 : Int) < (l.size : Int)
        · have HC : Hid (cc = true) := Lib.hid (by rw [HB0.out, decide_eq_true (by omega)]; rfl)
          go_wp2_with fail
          go_meet
          case rel => exact ⟨rfl, by rw [HC.out], rfl⟩
        · by_cases a2 : k = 3
          · have hq : (k == 3) = true := by simp [a2]
            by_cases a3 : l = p1
            · have q3 := ba_eq a3
              have HC : Hid (cc = true) := Lib.hid (by rw [HB0.out]; simp [a2, a3])
              clear a2 a3
              go_wp2_with fail
              go_meet
              case rel => exact ⟨rfl, by rw [HC.out], rfl⟩
            · have q3 := ba_ne a3
              have HC : Hid (cc = false) := Lib.hid (by rw [HB0.out]; simp [a3]; omega)
              clear a2 a3
              go_wp2_with fail
              go_meet
              case rel => exact ⟨rfl, by rw [HC.out], rfl⟩
          · have hq : (k == 3) = false := by simp [a2]
            have HC : Hid (cc = false) := Lib.hid (by rw [HB0.out]; simp [a2]; omega)
            clear a2
            go_wp2_with fail
            go_meet
            case rel => exact ⟨rfl, by rw [HC.out], rfl⟩
      case rest =>
        obtain ⟨hv4, hv5, hw5⟩ := hcut
        subst hv4 hv5
        obtain rfl := hw5
        have HK : cc = true → ¬ k = 3 → 100 < l.size := fun h h3 => by rw [HB0.out] at h; simp [h3] at h; exact h
        go_upto_if 50 with fail
        go_cut [4] (fun v wx => B1 w wx gx v L2 ⟨k, p1, l2, m, u, g, t, us, gr, b⟩ ⟨k, p, l, m, u, g, t, us, gr, b⟩)
        case first =>
          cases hcc : cc with
          | false =>
            rw [hcc] at HB1 HB2
            go_wp2_with fail
            go_meet
            case rel => rw [show l2 = l from HB1.out, show L2 = L1 from HB2.out]; exact ST.out
          | true =>
            rw [hcc] at HB1 HB2
            have hL2 : L2 = L1 ++ [⟨kLink, l⟩] := HB2.out
            have hl2' : l2 = shortv k p1 l := HB1.out
            have H4 := Lib.hid (fun w => short_spec k p1 l m u g t us gr b w hl (HK hcc))
            rw [← hl2'] at H4
            subst hL2
            clear HB0 HB1 HB2 HE HL hl2' HK
            go_wp2_with (at_builtin; refine wpList_append_own _ rfl _ _ 26 rfl w.heap.size 44 i0 (.agg #[.string ⟨#[]⟩, .string ⟨#[]⟩]) 2 32 Tryd.underlying26 hi0 hz0 hz1 hz2 rfl (by decide) _ (L1).length (valsR (L1)) rfl ?c0q2 ⟨wc.heap.size, 0, none⟩ 1 1 (valsR [(⟨kLink, l⟩ : Rec)]) rfl (valsR_len _) ?c1q2 ?c2q2 ?c3q2 ?c4q2 ?c5q2 ?_)
            case c0q2 => exact World.ownsRow.alloc OW.out _
            case c1q2 => intro jj uu hu; rw [valsR_one] at hu; first | exact hu | exact newR wc (⟨kLink, l⟩ : Rec) _ jj uu (by rw [valsR_one]; exact hu)
            case c2q2 => exact valsR_onecell _
            any_goals (first | (simp only [maxLen]; omega) | omega | (simp; omega))
            intro v' w6 hown hgrow hnil
            have S6 := Lib.hid (B1.app ST.out hown hgrow hnil)
            clear ST OW hown hgrow hnil c0 c1 c2 c3 c4 c5 c6 c7 c8 c9 d0 d1 d2 d3 d4 d5 d6 d7 d8 d9
            obtain ⟨ol, xa, ea, xf, zx2, ze2⟩ := S6.out.ok
            obtain ⟨c0, c1, c2, c3, c4, c5, c6, c7, c8, c9⟩ := ea.zero
            obtain ⟨d0, d1, d2, d3, d4, d5, d6, d7, d8, d9⟩ := xa.zero
            have f1 := xf 1
            have f2 := xf 2
            have f4 := xf 4
            have f5 := xf 5
            have f6 := xf 6
            clear ol xa ea xf
            go_wp2_with fail
            refine (H4.out _).mono ?_
            rintro e w7 ⟨rfl, hb⟩
            have S7 := Lib.hid (S6.out.below hb)
            clear hb S6 c0 c1 c2 c3 c4 c5 c6 c7 c8 c9 d0 d1 d2 d3 d4 d5 d6 d7 d8 d9 f1 f2 f4 f5 f6
            obtain ⟨ol, xa, ea, xf, zx3, ze3⟩ := S7.out.ok
            obtain ⟨d0, d1, d2, d3, d4, d5, d6, d7, d8, d9⟩ := xa.zero
            have f2 := xf 2
            clear ol xa ea xf
            go_wp2_with fail
            go_meet
            case rel => exact S7.out.store 2 (.string l2) rfl
        case rest =>
          clear ST HB0 HB1 HB2 HK OW c0 c1 c2 c3 c4 c5 c6 c7 c8 c9 d0 d1 d2 d3 d4 d5 d6 d7 d8 d9 zx1 ze1 zB
          have ST := Lib.hid hcut
          clear hcut
          have HB1 : Hid (bn 2097151 u = if 2097151 < u then 0 else u) := Lib.hid rfl
          have HB2 : Hid (bnL kUid 2097151 u L2 = if 2097151 < u then L2 ++ [⟨kUid, decTextv u⟩] else L2) := Lib.hid rfl
          have hl3 := bnL_len kUid 2097151 u L2
          generalize bn 2097151 u = u3 at HB1 HE ⊢
          generalize bnL kUid 2097151 u L2 = L3 at HB2 HL hl3 ⊢
          obtain ⟨gl, cl, hvl, _, _, _, _⟩ := ST.out.1.open
          subst hvl
          obtain ⟨ol, xa, ea, xf, zx1, ze1⟩ := ST.out.ok
          have ow := ol.1
          have OW := Lib.hid ow
          obtain ⟨c0, c1, c2, c3, c4, c5, c6, c7, c8, c9⟩ := ea.zero
          obtain ⟨d0, d1, d2, d3, d4, d5, d6, d7, d8, d9⟩ := xa.zero
          have zB := ST.out.2.2.2.2.1.size
          clear ol ow xa ea xf
          go_upto_if 62 with fail
          go_cut [4] (fun v wx => B1 w wx gx v L3 ⟨k, p1, l2, m, u3, g, t, us, gr, b⟩ ⟨k, p, l, m, u, g, t, us, gr, b⟩)
          case first =>
            by_cases hq : 2097151 < u
            · have hn : u3 = 0 := by rw [HB1.out, if_pos hq]
              have hL : L3 = L2 ++ [⟨kUid, decTextv u⟩] := by rw [HB2.out, if_pos hq]
              have H5 := Lib.hid (fun w => decText_spec u hu0 hu1 w)
              subst hL
              have HN0 := Lib.hid hn
              clear HB1 HB2 HE HL hn
              go_wp2_with fail
              refine (H5.out _).mono ?_
              rintro e w5 ⟨rfl, hw5⟩
              obtain rfl : wc = w5 := hw5
              go_wp2_with (at_builtin; refine wpList_append_own _ rfl _ _ 26 rfl w.heap.size 44 i0 (.agg #[.string ⟨#[]⟩, .string ⟨#[]⟩]) 2 32 Tryd.underlying26 hi0 hz0 hz1 hz2 rfl (by decide) _ (L2).length (valsR (L2)) rfl ?c0q3 ⟨wc.heap.size, 0, none⟩ 1 1 (valsR [(⟨kUid, decTextv u⟩ : Rec)]) rfl (valsR_len _) ?c1q3 ?c2q3 ?c3q3 ?c4q3 ?c5q3 ?_)
              case c0q3 => exact World.ownsRow.alloc OW.out _
              case c1q3 => intro jj uu hu; rw [valsR_one] at hu; first | exact hu | exact newR wc (⟨kUid, decTextv u⟩ : Rec) _ jj uu (by rw [valsR_one]; exact hu)
              case c2q3 => exact valsR_onecell _
              any_goals (first | (simp only [maxLen]; omega) | omega | (simp; omega))
              intro v' w6 hown hgrow hnil
              have S6 := Lib.hid (B1.app ST.out hown hgrow hnil)
              clear ST OW hown hgrow hnil c0 c1 c2 c3 c4 c5 c6 c7 c8 c9 d0 d1 d2 d3 d4 d5 d6 d7 d8 d9
              obtain ⟨ol, xa, ea, xf, zx2, ze2⟩ := S6.out.ok
              obtain ⟨c0, c1, c2, c3, c4, c5, c6, c7, c8, c9⟩ := ea.zero
              obtain ⟨d0, d1, d2, d3, d4, d5, d6, d7, d8, d9⟩ := xa.zero
              have f1 := xf 1
              have f2 := xf 2
              have f4 := xf 4
              have f5 := xf 5
              have f6 := xf 6
              clear ol xa ea xf
              go_wp2_with fail
              go_meet
              case rel => rw [HN0.out]; exact S6.out.store 4 (.int .i64 0) rfl
            · have hn : u3 = u := by rw [HB1.out, if_neg hq]
              have hL : L3 = L2 := by rw [HB2.out, if_neg hq]
              clear HB1 HB2 HE HL
              go_wp2_with fail
              go_meet
              case rel => rw [hn, hL]; exact ST.out
          case rest =>
            clear ST HB1 HB2 OW c0 c1 c2 c3 c4 c5 c6 c7 c8 c9 d0 d1 d2 d3 d4 d5 d6 d7 d8 d9 zx1 ze1 zB
            have ST := Lib.hid hcut
            clear hcut
            have HB1 : Hid (bn 2097151 g = if 2097151 < g then 0 else g) := Lib.hid rfl
            have HB2 : Hid (bnL kGid 2097151 g L3 = if 2097151 < g then L3 ++ [⟨kGid, decTextv g⟩] else L3) := Lib.hid rfl
            have hl4 := bnL_len kGid 2097151 g L3
            generalize bn 2097151 g = g4 at HB1 HE ⊢
            generalize bnL kGid 2097151 g L3 = L4 at HB2 HL hl4 ⊢
            obtain ⟨gl, cl, hvl, _, _, _, _⟩ := ST.out.1.open
            subst hvl
            obtain ⟨ol, xa, ea, xf, zx1, ze1⟩ := ST.out.ok
            have ow := ol.1
            have OW := Lib.hid ow
            obtain ⟨c0, c1, c2, c3, c4, c5, c6, c7, c8, c9⟩ := ea.zero
            obtain ⟨d0, d1, d2, d3, d4, d5, d6, d7, d8, d9⟩ := xa.zero
            have zB := ST.out.2.2.2.2.1.size
            clear ol ow xa ea xf
            go_upto_if 73 with fail
            go_cut [4] (fun v wx => B1 w wx gx v L4 ⟨k, p1, l2, m, u3, g4, t, us, gr, b⟩ ⟨k, p, l, m, u, g, t, us, gr, b⟩)
            case first =>
              by_cases hq : 2097151 < g
              · have hn : g4 = 0 := by rw [HB1.out, if_pos hq]
                have hL : L4 = L3 ++ [⟨kGid, decTextv g⟩] := by rw [HB2.out, if_pos hq]
                have H5 := Lib.hid (fun w => decText_spec g hg0 hg1 w)
                subst hL
                have HN0 := Lib.hid hn
                clear HB1 HB2 HE HL hn
                go_wp2_with fail
                refine (H5.out _).mono ?_
                rintro e w5 ⟨rfl, hw5⟩
                obtain rfl : wc = w5 := hw5
                go_wp2_with (at_builtin; refine wpList_append_own _ rfl _ _ 26 rfl w.heap.size 44 i0 (.agg #[.string ⟨#[]⟩, .string ⟨#[]⟩]) 2 32 Tryd.underlying26 hi0 hz0 hz1 hz2 rfl (by decide) _ (L3).length (valsR (L3)) rfl ?c0q4 ⟨wc.heap.size, 0, none⟩ 1 1 (valsR [(⟨kGid, decTextv g⟩ : Rec)]) rfl (valsR_len _) ?c1q4 ?c2q4 ?c3q4 ?c4q4 ?c5q4 ?_)
                case c0q4 => exact World.ownsRow.alloc OW.out _
                case c1q4 => intro jj uu hu; rw [valsR_one] at hu; first | exact hu | exact newR wc (⟨kGid, decTextv g⟩ : Rec) _ jj uu (by rw [valsR_one]; exact hu)
                case c2q4 => exact valsR_onecell _
                any_goals (first | (simp only [maxLen]; omega) | omega | (simp; omega))
                intro v' w6 hown hgrow hnil
                have S6 := Lib.hid (B1.app ST.out hown hgrow hnil)
                clear ST OW hown hgrow hnil c0 c1 c2 c3 c4 c5 c6 c7 c8 c9 d0 d1 d2 d3 d4 d5 d6 d7 d8 d9
                obtain ⟨ol, xa, ea, xf, zx2, ze2⟩ := S6.out.ok
                obtain ⟨c0, c1, c2, c3, c4, c5, c6, c7, c8, c9⟩ := ea.zero
                obtain ⟨d0, d1, d2, d3, d4, d5, d6, d7, d8, d9⟩ := xa.zero
                have f1 := xf 1
                have f2 := xf 2
                have f4 := xf 4
                have f5 := xf 5
                have f6 := xf 6
                clear ol xa ea xf
                go_wp2_with fail
                go_meet
                case rel => rw [HN0.out]; exact S6.out.store 5 (.int .i64 0) rfl
              · have hn : g4 = g := by rw [HB1.out, if_neg hq]
                have hL : L4 = L3 := by rw [HB2.out, if_neg hq]
                clear HB1 HB2 HE HL
                go_wp2_with fail
                go_meet
                case rel => rw [hn, hL]; exact ST.out
            case rest =>
              clear ST HB1 HB2 OW c0 c1 c2 c3 c4 c5 c6 c7 c8 c9 d0 d1 d2 d3 d4 d5 d6 d7 d8 d9 zx1 ze1 zB
              have ST := Lib.hid hcut
              clear hcut
              have HB1 : Hid (bn 8589934591 t = if 8589934591 < t then 0 else t) := Lib.hid rfl
              have HB2 : Hid (bnL kTime 8589934591 t L4 = if 8589934591 < t then L4 ++ [⟨kTime, decTextv t⟩] else L4) := Lib.hid rfl
              have hl5 := bnL_len kTime 8589934591 t L4
              generalize bn 8589934591 t = t5 at HB1 HE ⊢
              generalize bnL kTime 8589934591 t L4 = L5 at HB2 HL hl5 ⊢
              obtain ⟨gl, cl, hvl, _, _, _, _⟩ := ST.out.1.open
              subst hvl
              obtain ⟨ol, xa, ea, xf, zx1, ze1⟩ := ST.out.ok
              have ow := ol.1
              have OW := Lib.hid ow
              obtain ⟨c0, c1, c2, c3, c4, c5, c6, c7, c8, c9⟩ := ea.zero
              obtain ⟨d0, d1, d2, d3, d4, d5, d6, d7, d8, d9⟩ := xa.zero
              have zB := ST.out.2.2.2.2.1.size
              clear ol ow xa ea xf
              go_upto_if 84 with fail
              go_cut [4] (fun v wx => B1 w wx gx v L5 ⟨k, p1, l2, m, u3, g4, t5, us, gr, b⟩ ⟨k, p, l, m, u, g, t, us, gr, b⟩)
              case first =>
                by_cases hq : 8589934591 < t
                · have hn : t5 = 0 := by rw [HB1.out, if_pos hq]
                  have hL : L5 = L4 ++ [⟨kTime, decTextv t⟩] := by rw [HB2.out, if_pos hq]
                  have H5 := Lib.hid (fun w => decText_spec t ht0 ht1 w)
                  subst hL
                  have HN0 := Lib.hid hn
                  clear HB1 HB2 HE HL hn
                  go_wp2_with fail
                  refine (H5.out _).mono ?_
                  rintro e w5 ⟨rfl, hw5⟩
                  obtain rfl : wc = w5 := hw5
                  go_wp2_with (at_builtin; refine wpList_append_own _ rfl _ _ 26 rfl w.heap.size 44 i0 (.agg #[.string ⟨#[]⟩, .string ⟨#[]⟩]) 2 32 Tryd.underlying26 hi0 hz0 hz1 hz2 rfl (by decide) _ (L4).length (valsR (L4)) rfl ?c0q5 ⟨wc.heap.size, 0, none⟩ 1 1 (valsR [(⟨kTime, decTextv t⟩ : Rec)]) rfl (valsR_len _) ?c1q5 ?c2q5 ?c3q5 ?c4q5 ?c5q5 ?_)
                  case c0q5 => exact World.ownsRow.alloc OW.out _
                  case c1q5 => intro jj uu hu; rw [valsR_one] at hu; first | exact hu | exact newR wc (⟨kTime, decTextv t⟩ : Rec) _ jj uu (by rw [valsR_one]; exact hu)
                  case c2q5 => exact valsR_onecell _
                  any_goals (first | (simp only [maxLen]; omega) | omega | (simp; omega))
                  intro v' w6 hown hgrow hnil
                  have S6 := Lib.hid (B1.app ST.out hown hgrow hnil)
                  clear ST OW hown hgrow hnil c0 c1 c2 c3 c4 c5 c6 c7 c8 c9 d0 d1 d2 d3 d4 d5 d6 d7 d8 d9
                  obtain ⟨ol, xa, ea, xf, zx2, ze2⟩ := S6.out.ok
                  obtain ⟨c0, c1, c2, c3, c4, c5, c6, c7, c8, c9⟩ := ea.zero
                  obtain ⟨d0, d1, d2, d3, d4, d5, d6, d7, d8, d9⟩ := xa.zero
                  have f1 := xf 1
                  have f2 := xf 2
                  have f4 := xf 4
                  have f5 := xf 5
                  have f6 := xf 6
                  clear ol xa ea xf
                  go_wp2_with fail
                  go_meet
                  case rel => rw [HN0.out]; exact S6.out.store 6 (.int .i64 0) rfl
                · have hn : t5 = t := by rw [HB1.out, if_neg hq]
                  have hL : L5 = L4 := by rw [HB2.out, if_neg hq]
                  clear HB1 HB2 HE HL
                  go_wp2_with fail
                  go_meet
                  case rel => rw [hn, hL]; exact ST.out
              case rest =>
                clear ST HB1 HB2 OW c0 c1 c2 c3 c4 c5 c6 c7 c8 c9 d0 d1 d2 d3 d4 d5 d6 d7 d8 d9 zx1 ze1 zB
                have ST := Lib.hid hcut
                clear hcut
                obtain ⟨gl, cl, hvl, _, _, _, _⟩ := ST.out.1.open
                subst hvl
                obtain ⟨o, a, b9, c, d, z⟩ := ST.out
                have OL := Lib.hid o
                have RO := Lib.hid c
                have B := Lib.hid d
                obtain ⟨x0, x1, x2, x3, x4, x5, x6, x7, x8, x9⟩ := a.at.zero
                obtain ⟨d0, d1, d2, d3, d4, d5, d6, d7, d8, d9⟩ := RO.out.at.zero
                have f0 := RO.out.fz 0
                have f1 := RO.out.fz 1
                have f2 := RO.out.fz 2
                have f3 := RO.out.fz 3
                have f4 := RO.out.fz 4
                have f5 := RO.out.fz 5
                have f6 := RO.out.fz 6
                have f7 := RO.out.fz 7
                have f8 := RO.out.fz 8
                have f9 := RO.out.fz 9
                have hne := own_neE o.1 c
                clear o a b9 c d ST
                have HF : Hid (rE = ⟨k, p1, l2, m, u3, g4, t5, us, gr, b⟩) := Lib.hid HE.out
                have HG : Hid (rL = L5) := Lib.hid HL.out
                clear HE HL
                go_wp2_with fail
                have RP := RO.out.put ⟨k, p1, l2, m, u3, g4, t5, us, gr, b⟩
                have BP := below_putE (g := w.heap.size + 1) B.out (by omega) ⟨k, p1, l2, m, u3, g4, t5, us, gr, b⟩
                have OP := OwnR.kept (w' := putE wc (w.heap.size + 1) ⟨k, p1, l2, m, u3, g4, t5, us, gr, b⟩) OL.out (row := some (w.heap.size + 1)) (grown_putE wc _ _) (fun e => hne (by rw [← e]; rfl))
                simp only [putE] at RP BP OP
                refine bodyPost_ret (res_ent2 rfl _ rfl RP) rfl ?_
                exact ⟨⟨_, by rw [HF.out], by rw [HG.out]; exact OP⟩, BP⟩
end Go.Proofs.YtlbanaakjabfnabDoor
