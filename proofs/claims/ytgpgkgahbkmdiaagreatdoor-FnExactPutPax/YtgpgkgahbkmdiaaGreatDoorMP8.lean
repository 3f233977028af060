/- Texts joined: Base1I, MapS, KindMath, ListOkI, FrzRow. -/
import Derived.Deep.CutBlock
import Derived.Maps.OwnSet
import Derived.Maps.OwnOps
import Derived.Lib.ConvBytes
import Derived.Lib.AppendStr
import Derived.Test.YtgpgkgahbkmdiaaGreatDoorMP7
/- Contract of impl.Base1. -/
namespace Go.Proofs.YtgpgkgahbkmdiaaGreatDoor
open Go.ChangeShapes Go.WideShapes Go.ChangeAt Go.RowKit Go.Deep

/-- What the walk keeps: the records so far, the entry as it is (in the argument's box), the result's box. -/
def I1 (w wx : World) (v : Value) (L : List Rec) (x : Ent) : Prop :=
  OwnR wx w.heap.size v L ∧ EntO wx w.heap.size x ∧ EntO wx (w.heap.size + 1) ⟨0, ⟨#[]⟩, ⟨#[]⟩, 0, 0, 0, 0, ⟨#[]⟩, ⟨#[]⟩, ⟨#[]⟩⟩ ∧ Below w.heap.size w wx
theorem I1.below {w wx wy : World} {v : Value} {L : List Rec} {x : Ent} (h : I1 w wx v L x) (hb : Below wx.heap.size wx wy) : I1 w wy v L x := by
  obtain ⟨o, a, c, d⟩ := h
  exact ⟨o.keep hb, a.below hb a.lt, c.below hb c.lt, btE d hb⟩
theorem I1.app {w wx w6 : World} {v v' : Value} {L : List Rec} {x : Ent} {r : Rec} {t : TypeId} (h : I1 w wx v L x) (hown : w6.ownsRow w.heap.size 47 2 v' (L.length + 1) (valsR L ++ valsR [r])) (hgrow : (wx.alloc (.cells r.cells.toArray t)).grownBy w6 v.ownBlock) (hnil : ¬ v' = .slice none 0 0) : I1 w w6 v' (L ++ [r]) x := by
  obtain ⟨o, a, c, d⟩ := h
  have hb : Below wx.heap.size wx (wx.alloc (.cells r.cells.toArray t)) := (Below.refl _ _).alloc (Nat.le_refl _) _
  refine ⟨own_appR hown rfl rfl hnil, (a.below hb a.lt).grown hgrow (own_neE o.1 a), (c.below hb c.lt).grown hgrow (own_neE o.1 c), ?_⟩
  exact (d.alloc d.size _).grown hgrow (by have := d.size; simp; omega) (fun b hb => (World.ownsRow.lt o.1 b hb).1)
theorem I1.store {w wx : World} {v : Value} {L : List Rec} {x x' : Ent} (h : I1 w wx v L x) (i : Nat) (y : Value) (hx : x.cells.toArray.setIfInBounds i y = x'.cells.toArray) : I1 w (wx.setCell ⟨w.heap.size, i, none⟩ y) v L x' := by
  obtain ⟨o, a, c, d⟩ := h
  have hne := own_neE o.1 a
  obtain ⟨ho, gl, cap, rfl⟩ := o
  exact ⟨OwnR.kept ⟨ho, gl, cap, rfl⟩ (grown_setO (grown_reflO wx (some w.heap.size)) i y) (fun e => hne (by rw [← e]; rfl)), a.set i y hx, c.other (by omega), d.setCell (p := ⟨w.heap.size, i, none⟩) (Nat.le_refl _) _⟩
theorem I1.ok {w wx : World} {v : Value} {L : List Rec} {x : Ent} (h : I1 w wx v L x) : OwnR wx w.heap.size v L ∧ EntAt wx w.heap.size 0 x ∧ (∀ i, wx.frozen? ⟨w.heap.size, i, none⟩ = false) ∧ w.heap.size < wx.heap.size := ⟨h.1, h.2.1.at, h.2.1.fz, h.2.1.lt⟩
theorem own_neT {w : World} {base n g : Nat} {v : Value} {xs : List Value} {c : Array Value} {t : TypeId} {fr : Nat × Nat} (ho : w.ownsRow base 47 2 v n xs) (hg : w.heap[g]? = some (.cells c t fr)) (hne : t ≠ 47) : some g ≠ v.ownBlock := by
  rcases ho.2 with ⟨rfl, _⟩ | ⟨g', cap, cur, rfl, _, hc, _⟩
  · simp [Value.ownBlock]
  · simp only [Value.ownBlock]
    intro h
    obtain rfl : g = g' := Option.some.inj h
    rw [hg] at hc
    simp only [Option.some.injEq, Obj.cells.injEq] at hc
    exact hne hc.2.1
theorem rowN {w : World} {G : Nat} {cs : Array Value} {t : TypeId} {fr : Nat × Nat} (h : w.heap[G]? = some (.cells cs t fr)) : ∀ j u, cs.toList[j]? = some u → w.cell? ((⟨G, 0, none⟩ : Addr).add j) = some u := by
  intro j u hu
  rw [show (⟨G, 0, none⟩ : Addr).add j = ⟨G, j, none⟩ from by unfold Addr.add; split <;> simp_all]
  simpa [World.cell?, h] using hu
theorem I1.app2 {w wx w6 : World} {v v' : Value} {L : List Rec} {x : Ent} {r : Rec} (h : I1 w wx v L x) (hown : w6.ownsRow w.heap.size 47 2 v' (L.length + 1) (valsR L ++ valsR [r])) (hgrow : wx.grownBy w6 v.ownBlock) (hnil : ¬ v' = .slice none 0 0) : I1 w w6 v' (L ++ [r]) x := by
  obtain ⟨o, a, c, d⟩ := h
  exact ⟨own_appR hown rfl rfl hnil, a.grown hgrow (own_neE o.1 a), c.grown hgrow (own_neE o.1 c), d.grown hgrow d.size (fun b hb => (World.ownsRow.lt o.1 b hb).1)⟩
def vSl (B : Nat) (cs : Array Value) (V : Nat → Value → Prop) (d : Nat) (v : Value) (w : World) : Prop := if d = 90 then ∃ G, v = .slice (some ⟨G, 0, none⟩) 1 1 ∧ B ≤ G ∧ w.heap[G]? = some (.cells cs 47 (0, 0)) else V d v
theorem vSl_keep {C : World → Prop} (B : Nat) (cs : Array Value) (V : Nat → Value → Prop) : ∀ d v x y, C x → Below x.heap.size x y → vSl B cs V d v x → vSl B cs V d v y := by
  intro d v x y _ hb h
  unfold vSl at h ⊢
  split at h
  · rename_i hd
    rw [if_pos hd]
    obtain ⟨G, h1, h2, h3⟩ := h
    exact ⟨G, h1, h2, (hb.block G (Array.getElem?_eq_some_iff.1 h3).1).trans h3⟩
  · rename_i hd
    rw [if_neg hd]; exact h
theorem heap_alloc_lastN (w : World) (o : Obj) : (w.alloc o).heap[w.heap.size]? = some o := by
  show (w.heap.push o)[w.heap.size]? = _
  simp
set_option maxHeartbeats 6400000 in
set_option maxRecDepth 8000 in
theorem base1_impl (k : Int) (p l : ByteArray) (m u g t : Int) (us gr b : ByteArray) (w : World) (hp : p.size ≤ 4194304) (hl : l.size ≤ 4194304) (hus : us.size ≤ 4194304) (hgr : gr.size ≤ 4194304) (hbz : b.size ≤ 4194304) (hu0 : -9223372036854775808 ≤ u) (hu1 : u ≤ 9223372036854775807) (hg0 : -9223372036854775808 ≤ g) (hg1 : g ≤ 9223372036854775807) (ht0 : -9223372036854775808 ≤ t) (ht1 : t ≤ 9223372036854775807) (ht : Lib.TabIs Tryz.prog w "internal/strconv.uint64pow10" .u64 Lib.pow10Tab) :
    Calls Tryz.prog 39 #[.agg #[.int .i64 k, .string p, .string l, .int .i64 m, .int .i64 u, .int .i64 g, .int .i64 t, .string us, .string gr, .string b]] w fun e w' => (∃ v, e = .returned (.tuple #[.agg (base1E ⟨k, p, l, m, u, g, t, us, gr, b⟩).cells.toArray, v]) ∧ OwnR w' w.heap.size v (base1L ⟨k, p, l, m, u, g, t, us, gr, b⟩)) ∧ Below w.heap.size w w' := by
  obtain ⟨i0, hi0, hz0, hz1, hz2⟩ := info_parts Tryz.infoR
  have HT := Lib.hid ht
  have H1 := Lib.hid (fun w => entryOk_impl k p l m u g t us gr b w hp hl hus hgr)
  have HC := Lib.hid (fun w => copyEntry_impl k p l m u g t us gr b w hp hl hus hgr hbz)
  have H2 := Lib.hid (fun w => split_impl p w hp)
  have H3 := Lib.hid (fun w => base_impl p w (by omega))
  have HE : Hid (base1E ⟨k, p, l, m, u, g, t, us, gr, b⟩ = if entOkv ⟨k, p, l, m, u, g, t, us, gr, b⟩ then ⟨k, b1p p, b2l k (b1p p) l, m, bn 2097151 u, bn 2097151 g, bn 8589934591 t, us, gr, b⟩ else ⟨0, ⟨#[]⟩, ⟨#[]⟩, 0, 0, 0, 0, ⟨#[]⟩, ⟨#[]⟩, ⟨#[]⟩⟩) := Lib.hid rfl
  have HL : Hid (base1L ⟨k, p, l, m, u, g, t, us, gr, b⟩ = if entOkv ⟨k, p, l, m, u, g, t, us, gr, b⟩ then bnL kTime 8589934591 t (bnL kGid 2097151 g (bnL kUid 2097151 u (b2L k (b1p p) l (b1L p)))) else []) := Lib.hid rfl
  generalize base1E ⟨k, p, l, m, u, g, t, us, gr, b⟩ = rE at HE
  generalize base1L ⟨k, p, l, m, u, g, t, us, gr, b⟩ = rL at HL
  generalize entOkv ⟨k, p, l, m, u, g, t, us, gr, b⟩ = ok at H1 HE HL
  clear ht
  go_enter Tryz.func39, Tryz.ntmps39
  go_wp2_with fail
  refine (H1.out _).mono ?_
  rintro e w1 ⟨rfl, hb⟩
  obtain ⟨e1, e2, e3, e4, e5⟩ := three_new (e := ⟨k, p, l, m, u, g, t, us, gr, b⟩) (z := ⟨0, ⟨#[]⟩, ⟨#[]⟩, 0, 0, 0, 0, ⟨#[]⟩, ⟨#[]⟩, ⟨#[]⟩⟩) hb
  have EO := Lib.hid e1
  have RO := Lib.hid e2
  have OL := Lib.hid e3
  have B := Lib.hid e4
  clear hb e1 e2 e3 e4
  obtain ⟨c0, c1, c2, c3, c4, c5, c6, c7, c8, c9⟩ := EO.out.at.zero
  cases ok with
  | false =>
    obtain ⟨d0, d1, d2, d3, d4, d5, d6, d7, d8, d9⟩ := RO.out.at.zero
    have f0 := RO.out.fz 0
    have f1 := RO.out.fz 1
    have f2 := RO.out.fz 2
    have f3 := RO.out.fz 3
    have f4 := RO.out.fz 4
    have f5 := RO.out.fz 5
    have f6 := RO.out.fz 6
    have f7 := RO.out.fz 7
    have f8 := RO.out.fz 8
    have f9 := RO.out.fz 9
    go_wp2_with fail
    have RP := RO.out.put ⟨0, ⟨#[]⟩, ⟨#[]⟩, 0, 0, 0, 0, ⟨#[]⟩, ⟨#[]⟩, ⟨#[]⟩⟩
    have BP := below_putE (g := w.heap.size + 1) B.out (by omega) ⟨0, ⟨#[]⟩, ⟨#[]⟩, 0, 0, 0, 0, ⟨#[]⟩, ⟨#[]⟩, ⟨#[]⟩⟩
    have OP := OwnR.kept (w' := putE w1 (w.heap.size + 1) ⟨0, ⟨#[]⟩, ⟨#[]⟩, 0, 0, 0, 0, ⟨#[]⟩, ⟨#[]⟩, ⟨#[]⟩⟩) OL.out (row := some (w.heap.size + 1)) (grown_putE w1 _ _) (fun e => by have := Option.some.inj e; omega)
    simp only [putE] at RP BP OP
    refine bodyPost_ret (res_ent2 rfl _ rfl RP) rfl ?_
    exact ⟨⟨_, by rw [HE.out]; rfl, by rw [HL.out]; exact OP⟩, BP⟩
  | true =>
    go_wp2_with fail
    refine (HC.out _).mono ?_
    rintro e w2 ⟨rfl, hb⟩
    replace EO := Lib.hid (EO.out.below hb EO.out.lt)
    replace RO := Lib.hid (RO.out.below hb RO.out.lt)
    replace OL := Lib.hid (OL.out.keep hb)
    replace B := Lib.hid (btE B.out hb)
    clear hb c0 c1 c2 c3 c4 c5 c6 c7 c8 c9
    obtain ⟨c0, c1, c2, c3, c4, c5, c6, c7, c8, c9⟩ := EO.out.at.zero
    have f0 := EO.out.fz 0
    have f1 := EO.out.fz 1
    have f2 := EO.out.fz 2
    have f3 := EO.out.fz 3
    have f4 := EO.out.fz 4
    have f5 := EO.out.fz 5
    have f6 := EO.out.fz 6
    have f7 := EO.out.fz 7
    have f8 := EO.out.fz 8
    have f9 := EO.out.fz 9
    have EP := EO.out.put ⟨k, p, l, m, u, g, t, us, gr, b⟩
    have RP : EntO (putE w2 w.heap.size ⟨k, p, l, m, u, g, t, us, gr, b⟩) (w.heap.size + 1) ⟨0, ⟨#[]⟩, ⟨#[]⟩, 0, 0, 0, 0, ⟨#[]⟩, ⟨#[]⟩, ⟨#[]⟩⟩ := (putE_other (by omega)).trans RO.out
    have BP := below_putE (g := w.heap.size) B.out (Nat.le_refl _) ⟨k, p, l, m, u, g, t, us, gr, b⟩
    have OP := OwnR.kept (w' := putE w2 w.heap.size ⟨k, p, l, m, u, g, t, us, gr, b⟩) OL.out (row := some w.heap.size) (grown_putE w2 _ _) (fun e => by have := Option.some.inj e; omega)
    simp only [putE] at EP RP BP OP
    have ST := Lib.hid (show I1 w _ _ [] ⟨k, p, l, m, u, g, t, us, gr, b⟩ from ⟨OP, EP, RP, BP⟩)
    clear EP RP BP OP
    go_wp2_with fail
    refine (H2.out _).mono ?_
    rintro e w3 ⟨rfl, hb⟩
    replace ST := Lib.hid (ST.out.below hb)
    clear hb EO RO OL B c0 c1 c2 c3 c4 c5 c6 c7 c8 c9 f0 f1 f2 f3 f4 f5 f6 f7 f8 f9 H1 HC e5
    have HB1 : Hid (b1p p = if splitOk p then p else basev p) := Lib.hid rfl
    have HB2 : Hid (b1L p = if splitOk p then [] else [⟨kPath, p⟩]) := Lib.hid rfl
    have hl1 := b1L_len p
    generalize splitOk p = so at HB1 HB2 ⊢
    generalize b1p p = p1 at HB1 HE HL ⊢
    generalize b1L p = L1 at HB2 HL hl1 ⊢
    go_upto_if 27 with fail
    go_cut [4] (fun v wx => I1 w wx v L1 ⟨k, p1, l, m, u, g, t, us, gr, b⟩)
    case first =>
      cases so with
      | true =>
        go_wp2_with fail
        go_meet
        case rel => rw [show p1 = p from HB1.out, show L1 = [] from HB2.out]; exact ST.out
      | false =>
        have hL1 : L1 = [⟨kPath, p⟩] := HB2.out
        have hp1 : p1 = basev p := HB1.out
        rw [← hp1] at H3
        subst hL1
        clear HB1 HB2 HE HL hp1
        obtain ⟨ol, xa, xf, ze1⟩ := ST.out.ok
        have OW := Lib.hid ol.1
        obtain ⟨d0, d1, d2, d3, d4, d5, d6, d7, d8, d9⟩ := xa.zero
        have f1 := xf 1
        have f2 := xf 2
        have f4 := xf 4
        have f5 := xf 5
        have f6 := xf 6
        have zB := ST.out.2.2.2.size
        clear ol xa xf
        go_wp2_with (at_builtin; refine wpList_append_own _ rfl _ _ 48 rfl w.heap.size 47 i0 (.agg #[.string ⟨#[]⟩, .string ⟨#[]⟩]) 2 32 Tryz.underlying48 hi0 hz0 hz1 hz2 rfl (by decide) _ ([] : List Rec).length (valsR ([] : List Rec)) rfl ?c0q1 ⟨w3.heap.size, 0, none⟩ 1 1 (valsR [(⟨kPath, p⟩ : Rec)]) rfl (valsR_len _) ?c1q1 ?c2q1 ?c3q1 ?c4q1 ?c5q1 ?_)
        case c0q1 => exact World.ownsRow.alloc OW.out _
        case c1q1 => intro jj uu hu; rw [valsR_one] at hu; first | exact hu | exact newR w3 (⟨kPath, p⟩ : Rec) _ jj uu (by rw [valsR_one]; exact hu)
        case c2q1 => exact valsR_onecell _
        any_goals (first | (simp only [maxLen]; omega) | omega | (simp; omega))
        intro v' w6 hown hgrow hnil
        have S6 := Lib.hid (I1.app ST.out hown hgrow hnil)
        clear ST OW hown hgrow hnil d0 d1 d2 d3 d4 d5 d6 d7 d8 d9 f1 f2 f4 f5 f6
        obtain ⟨ol, xa, xf, ze2⟩ := S6.out.ok
        obtain ⟨d0, d1, d2, d3, d4, d5, d6, d7, d8, d9⟩ := xa.zero
        have f1 := xf 1
        have f2 := xf 2
        clear ol xa xf
        go_wp2_with fail
        refine (H3.out _).mono ?_
        rintro e w7 ⟨rfl, hb⟩
        have S7 := Lib.hid (S6.out.below hb)
        clear hb S6 d0 d1 d2 d3 d4 d5 d6 d7 d8 d9 f1 f2
        obtain ⟨ol, xa, xf, ze3⟩ := S7.out.ok
        obtain ⟨d0, d1, d2, d3, d4, d5, d6, d7, d8, d9⟩ := xa.zero
        have f1 := xf 1
        have f2 := xf 2
        clear ol xa xf
        go_wp2_with fail
        go_meet
        case rel => exact S7.out.store 1 (.string p1) rfl
    case rest =>
      clear ST H2 H3 HB1 HB2
      have ST := Lib.hid hcut
      clear hcut
      have HB0 : Hid (b2c k p1 l = (decide (100 < l.size) || (decide (k = 3) && decide (l = p1)))) := Lib.hid rfl
      have HB1 : Hid (b2l k p1 l = if b2c k p1 l then shortv k p1 l else l) := Lib.hid rfl
      have HB2 : Hid (b2L k p1 l L1 = if b2c k p1 l then L1 ++ [⟨kLink, l⟩] else L1) := Lib.hid rfl
      have hl2 := b2L_len k p1 l L1
      generalize b2l k p1 l = l2 at HB1 HE ⊢
      generalize b2L k p1 l L1 = L2 at HB2 HL hl2 ⊢
      generalize b2c k p1 l = cc at HB0 HB1 HB2 ⊢
      obtain ⟨gl, cl, hvl, _, _, _, _⟩ := ST.out.1.open
      subst hvl
      obtain ⟨ol, xa, xf, ze1⟩ := ST.out.ok
      have OW := Lib.hid ol.1
      obtain ⟨d0, d1, d2, d3, d4, d5, d6, d7, d8, d9⟩ := xa.zero
      have f1 := xf 1
      have f2 := xf 2
      have f4 := xf 4
      have f5 := xf 5
      have f6 := xf 6
      have zB := ST.out.2.2.2.size
      clear ol xa xf
      go_upto_region 9 with fail
      go_cut [4, 53] (fun v4 v wx => v4 = .slice (some ⟨gl, 0, none⟩) L1.length cl ∧ v = .bool cc ∧ wx = wc)
      case first =>
        by_cases a1 : (100 : Int) < (l.size : Int)
        · have HC : Hid (cc = true) := Lib.hid (by rw [HB0.out, decide_eq_true (by omega)]; rfl)
          go_wp2_with fail
          go_meet
          case rel => exact ⟨rfl, by rw [HC.out], rfl⟩
        · by_cases a2 : k = 3
          · have hq : (k == 3) = true := by simp [a2]
            by_cases a3 : l = p1
            · have q3 := ba_eq a3
              have HC : Hid (cc = true) := Lib.hid (by rw [HB0.out]; simp [a2, a3])
              clear a2 a3
              go_wp2_with fail
              go_meet
              case rel => exact ⟨rfl, by rw [HC.out], rfl⟩
            · have q3 := ba_ne a3
              have HC : Hid (cc = false) := Lib.hid (by rw [HB0.out]; simp [a3]; omega)
              clear a2 a3
              go_wp2_with fail
              go_meet
              case rel => exact ⟨rfl, by rw [HC.out], rfl⟩
          · have hq : (k == 3) = false := by simp [a2]
            have HC : Hid (cc = false) := Lib.hid (by rw [HB0.out]; simp [a2]; omega)
            clear a2
            go_wp2_with fail
            go_meet
            case rel => exact ⟨rfl, by rw [HC.out], rfl⟩
      case rest =>
        obtain ⟨hv4, hv5, hw5⟩ := hcut
        subst hv4 hv5
        obtain rfl := hw5
        have HK : cc = true → ¬ k = 3 → 100 < l.size := fun h h3 => by rw [HB0.out] at h; simp [h3] at h; exact h
        go_upto_if 53 with fail
        go_cut [4] (fun v wx => I1 w wx v L2 ⟨k, p1, l2, m, u, g, t, us, gr, b⟩)
        case first =>
          cases hcc : cc with
          | false =>
            rw [hcc] at HB1 HB2
            go_wp2_with fail
            go_meet
            case rel => rw [show l2 = l from HB1.out, show L2 = L1 from HB2.out]; exact ST.out
          | true =>
            rw [hcc] at HB1 HB2
            have hL2 : L2 = L1 ++ [⟨kLink, l⟩] := HB2.out
            have hl2' : l2 = shortv k p1 l := HB1.out
            have H4 := Lib.hid (fun w => short_impl k p1 l m u g t us gr b w hl (HK hcc))
            rw [← hl2'] at H4
            subst hL2
            clear HB0 HB1 HB2 HE HL hl2' HK
            go_wp2_with (at_builtin; refine wpList_append_own _ rfl _ _ 48 rfl w.heap.size 47 i0 (.agg #[.string ⟨#[]⟩, .string ⟨#[]⟩]) 2 32 Tryz.underlying48 hi0 hz0 hz1 hz2 rfl (by decide) _ (L1).length (valsR (L1)) rfl ?c0q2 ⟨wc.heap.size, 0, none⟩ 1 1 (valsR [(⟨kLink, l⟩ : Rec)]) rfl (valsR_len _) ?c1q2 ?c2q2 ?c3q2 ?c4q2 ?c5q2 ?_)
            case c0q2 => exact World.ownsRow.alloc OW.out _
            case c1q2 => intro jj uu hu; rw [valsR_one] at hu; first | exact hu | exact newR wc (⟨kLink, l⟩ : Rec) _ jj uu (by rw [valsR_one]; exact hu)
            case c2q2 => exact valsR_onecell _
            any_goals (first | (simp only [maxLen]; omega) | omega | (simp; omega))
            intro v' w6 hown hgrow hnil
            have S6 := Lib.hid (I1.app ST.out hown hgrow hnil)
            clear ST OW hown hgrow hnil d0 d1 d2 d3 d4 d5 d6 d7 d8 d9 f1 f2 f4 f5 f6
            obtain ⟨ol, xa, xf, ze2⟩ := S6.out.ok
            obtain ⟨d0, d1, d2, d3, d4, d5, d6, d7, d8, d9⟩ := xa.zero
            have f1 := xf 1
            have f2 := xf 2
            clear ol xa xf
            go_wp2_with fail
            refine (H4.out _).mono ?_
            rintro e w7 ⟨rfl, hb⟩
            have S7 := Lib.hid (S6.out.below hb)
            clear hb S6 d0 d1 d2 d3 d4 d5 d6 d7 d8 d9 f1 f2
            obtain ⟨ol, xa, xf, ze3⟩ := S7.out.ok
            obtain ⟨d0, d1, d2, d3, d4, d5, d6, d7, d8, d9⟩ := xa.zero
            have f1 := xf 1
            have f2 := xf 2
            clear ol xa xf
            go_wp2_with fail
            go_meet
            case rel => exact S7.out.store 2 (.string l2) rfl
        case rest =>
          clear ST HB0 HB1 HB2 HK OW d0 d1 d2 d3 d4 d5 d6 d7 d8 d9 f1 f2 f4 f5 f6 ze1 zB
          have ST := Lib.hid hcut
          clear hcut
          obtain ⟨gl, cl, hvl, _, _, _, _⟩ := ST.out.1.open
          subst hvl
          obtain ⟨ol, xa, xf, ze1⟩ := ST.out.ok
          have OW := Lib.hid ol.1
          obtain ⟨d0, d1, d2, d3, d4, d5, d6, d7, d8, d9⟩ := xa.zero
          have f1 := xf 1
          have f2 := xf 2
          have f4 := xf 4
          have f5 := xf 5
          have f6 := xf 6
          have zB := ST.out.2.2.2.size
          clear ol xa xf
          go_wp2_with fail
          have STa := Lib.hid (ST.out.below ((Below.refl wc.heap.size wc).alloc (o := .cells #[.string ⟨#[117, 105, 100]⟩, .int .i64 2097151, .pointer (some ⟨w.heap.size, 4, none⟩), .string ⟨#[103, 105, 100]⟩, .int .i64 2097151, .pointer (some ⟨w.heap.size, 5, none⟩), .string ⟨#[109, 116, 105, 109, 101]⟩, .int .i64 8589934591, .pointer (some ⟨w.heap.size, 6, none⟩)] 73) (Nat.le_refl _)))
          clear ST OW d0 d1 d2 d3 d4 d5 d6 d7 d8 d9 f1 f2 f4 f5 f6 ze1 zB
          have ST := STa
          clear STa
          have hx0 : ∀ w', (Instr.index 73 (.agg #[.string ⟨#[117, 105, 100]⟩, .int .i64 2097151, .pointer (some ⟨w.heap.size, 4, none⟩), .string ⟨#[103, 105, 100]⟩, .int .i64 2097151, .pointer (some ⟨w.heap.size, 5, none⟩), .string ⟨#[109, 116, 105, 109, 101]⟩, .int .i64 8589934591, .pointer (some ⟨w.heap.size, 6, none⟩)]) (.int .i64 0)).run Tryz.prog w' = .ok (.agg #[.string ⟨#[117, 105, 100]⟩, .int .i64 2097151, .pointer (some ⟨w.heap.size, 4, none⟩)]) w' := fun _ => by kernel_rfl
          have hx1 : ∀ w', (Instr.index 73 (.agg #[.string ⟨#[117, 105, 100]⟩, .int .i64 2097151, .pointer (some ⟨w.heap.size, 4, none⟩), .string ⟨#[103, 105, 100]⟩, .int .i64 2097151, .pointer (some ⟨w.heap.size, 5, none⟩), .string ⟨#[109, 116, 105, 109, 101]⟩, .int .i64 8589934591, .pointer (some ⟨w.heap.size, 6, none⟩)]) (.int .i64 1)).run Tryz.prog w' = .ok (.agg #[.string ⟨#[103, 105, 100]⟩, .int .i64 2097151, .pointer (some ⟨w.heap.size, 5, none⟩)]) w' := fun _ => by kernel_rfl
          have hx2 : ∀ w', (Instr.index 73 (.agg #[.string ⟨#[117, 105, 100]⟩, .int .i64 2097151, .pointer (some ⟨w.heap.size, 4, none⟩), .string ⟨#[103, 105, 100]⟩, .int .i64 2097151, .pointer (some ⟨w.heap.size, 5, none⟩), .string ⟨#[109, 116, 105, 109, 101]⟩, .int .i64 8589934591, .pointer (some ⟨w.heap.size, 6, none⟩)]) (.int .i64 2)).run Tryz.prog w' = .ok (.agg #[.string ⟨#[109, 116, 105, 109, 101]⟩, .int .i64 8589934591, .pointer (some ⟨w.heap.size, 6, none⟩)]) w' := fun _ => by kernel_rfl
          generalize wc.alloc (.cells #[.string ⟨#[117, 105, 100]⟩, .int .i64 2097151, .pointer (some ⟨w.heap.size, 4, none⟩), .string ⟨#[103, 105, 100]⟩, .int .i64 2097151, .pointer (some ⟨w.heap.size, 5, none⟩), .string ⟨#[109, 116, 105, 109, 101]⟩, .int .i64 8589934591, .pointer (some ⟨w.heap.size, 6, none⟩)] 73) = wk at *
          refine wp_loop_rounds 4 ?_
          rw [rounds_succ]
          have HB1 : Hid (bn 2097151 u = if 2097151 < u then 0 else u) := Lib.hid rfl
          have HB2 : Hid (bnL kUid 2097151 u L2 = if 2097151 < u then L2 ++ [⟨kUid, decTextv u⟩] else L2) := Lib.hid rfl
          have hl3 := bnL_len kUid 2097151 u L2
          generalize bn 2097151 u = u3 at HB1 HE ⊢
          generalize bnL kUid 2097151 u L2 = L3 at HB2 HL hl3 ⊢
          go_upto_block 1 with fail
          go_cut [4, 70, 71] (fun v v70 v71 wx => v70 = .agg #[.string ⟨#[117, 105, 100]⟩, .int .i64 2097151, .pointer (some ⟨w.heap.size, 4, none⟩), .string ⟨#[103, 105, 100]⟩, .int .i64 2097151, .pointer (some ⟨w.heap.size, 5, none⟩), .string ⟨#[109, 116, 105, 109, 101]⟩, .int .i64 8589934591, .pointer (some ⟨w.heap.size, 6, none⟩)] ∧ v71 = .int .i64 0 ∧ I1 w wx v L3 ⟨k, p1, l2, m, u3, g, t, us, gr, b⟩)
          case first =>
            go_upto_region 16 with fail
            have STb := Lib.hid (ST.out.below ((Below.refl _ _).alloc (o := .cells #[.string ⟨#[117, 105, 100]⟩, .int .i64 2097151, .pointer (some ⟨w.heap.size, 4, none⟩)] 72) (Nat.le_refl _)))
            have NB := heap_alloc_lastN wk (.cells #[.string ⟨#[117, 105, 100]⟩, .int .i64 2097151, .pointer (some ⟨w.heap.size, 4, none⟩)] 72)
            generalize wk.alloc (.cells #[.string ⟨#[117, 105, 100]⟩, .int .i64 2097151, .pointer (some ⟨w.heap.size, 4, none⟩)] 72) = w4 at *
            generalize wk.heap.size = gn at *
            have HNB := Lib.hid NB
            have n0 : w4.cell? ⟨gn, 0, none⟩ = some (.string ⟨#[117, 105, 100]⟩) := by simp [World.cell?, NB]
            have n1 : w4.cell? ⟨gn, 1, none⟩ = some (.int .i64 2097151) := by simp [World.cell?, NB]
            have n2 : w4.cell? ⟨gn, 2, none⟩ = some (.pointer (some ⟨w.heap.size, 4, none⟩)) := by simp [World.cell?, NB]
            clear NB ST
            have ST := STb
            clear STb
            obtain ⟨ol, xa, xf, ze1⟩ := ST.out.ok
            have OW := Lib.hid ol.1
            obtain ⟨d0, d1, d2, d3, d4, d5, d6, d7, d8, d9⟩ := xa.zero
            have f1 := xf 1
            have f2 := xf 2
            have f4 := xf 4
            have f5 := xf 5
            have f6 := xf 6
            have zB := ST.out.2.2.2.size
            clear ol xa xf
            go_region
            have STd : Hid (I1 w w4.drew (.slice (some ⟨gl, 0, none⟩) L2.length cl) L2 ⟨k, p1, l2, m, u, g, t, us, gr, b⟩) := Lib.hid ⟨ST.out.1, ST.out.2.1, ST.out.2.2.1, ST.out.2.2.2.drew⟩
            have HNd : Hid (w4.drew.heap[gn]? = some (.cells #[.string ⟨#[117, 105, 100]⟩, .int .i64 2097151, .pointer (some ⟨w.heap.size, 4, none⟩)] 72 (0, 0))) := Lib.hid HNB.out
            clear ST HNB OW n0 n1 n2 d0 d1 d2 d3 d4 d5 d6 d7 d8 d9 f1 f2 f4 f5 f6 ze1 zB
            generalize w4.drew = w5 at *
            have ST := STd
            clear STd
            by_cases hq : 2097151 < u
            · have hn : u3 = 0 := by rw [HB1.out, if_pos hq]
              have hL : L3 = L2 ++ [⟨kUid, decTextv u⟩] := by rw [HB2.out, if_pos hq]
              have HN0 := Lib.hid hn
              have HL0 := Lib.hid hL
              clear HB1 HB2 HE HL hn hL
              have B9 := Lib.hid ST.out.2.2.2
              have KC : Hid (∀ w', Below w5.heap.size w5 w' → w'.cell? ⟨gn, 0, none⟩ = some (.string ⟨#[117, 105, 100]⟩) ∧ w'.cell? ⟨gn, 2, none⟩ = some (.pointer (some ⟨w.heap.size, 4, none⟩)) ∧ w'.cell? ⟨w.heap.size, 4, none⟩ = some (.int .i64 u)) := Lib.hid (fun w' hb => by
                have h1 := (hb.block gn (Array.getElem?_eq_some_iff.1 HNd.out).1).trans HNd.out
                have h2 := (ST.out.2.1.below hb ST.out.2.1.lt).at 4 (by omega)
                exact ⟨by simp [World.cell?, h1], by simp [World.cell?, h1], h2⟩)
              go_upto_region 17 with fail
              refine wp_region_cut 10 (by kernel_rfl) (fun w' => Below w5.heap.size w5 w') (fun x y => Below x.heap.size x y) (vSl w5.heap.size #[.string ⟨#[117, 105, 100]⟩, .string (decTextv u)] (fun d v => match d with | 81 => v = .slice (some ⟨gl, 0, none⟩) L2.length cl | 82 => v = .pointer (some ⟨gn, 0, none⟩) | 83 => v = .string ⟨#[117, 105, 100]⟩ | 84 => v = .pointer (some ⟨gn, 2, none⟩) | 85 => v = .pointer (some ⟨w.heap.size, 4, none⟩) | 86 => v = .pointer (some ⟨w.heap.size, 4, none⟩) | 87 => v = .int .i64 u | 88 => v = .string (decTextv u) | 89 => v = .agg #[.string ⟨#[117, 105, 100]⟩, .string (decTextv u)] | _ => True)) (by kernel_rfl) (by kernel_rfl) ((Below.refl _ _).drew) (vSl_keep _ _ _) (by simp) ?hopsu ?hendu
              case hopsu =>
                simp only [List.take_succ_cons, List.take_zero, List.forall_mem_cons]
                refine ⟨?ou81, ?ou82, ?ou83, ?ou84, ?ou85, ?ou86, ?ou87, ?ou88, ?ou89, ?ou90, fun _ h => by cases h⟩
                case ou81 =>
                  intro Q a w2 hC hV hI
                  have e4 : a.eval (.tmp 4) = .slice (some ⟨gl, 0, none⟩) L2.length cl := (hI 4 (by simp [Op.operands]) (by kernel_rfl)).trans rfl
                  have f4 : a.tmps.getD 4 undef = .slice (some ⟨gl, 0, none⟩) L2.length cl := e4
                  have g4 : a.tmps[4]?.getD undef = .slice (some ⟨gl, 0, none⟩) L2.length cl := by rw [← Array.getD_eq_getD_getElem?]; exact e4
                  refine op_val (.slice (some ⟨gl, 0, none⟩) L2.length cl) ?_ hC (Below.refl _ _) (by intro d hd; cases hd; exact rfl)
                  (clear hV hI hC; go_simp <;> (first | rfl | simp))
                case ou82 =>
                  intro Q a w2 hC hV hI
                  have e10 : a.eval (.tmp 10) = .pointer (some ⟨gn, 0, none⟩) := (hI 10 (by simp [Op.operands]) (by kernel_rfl)).trans rfl
                  have f10 : a.tmps.getD 10 undef = .pointer (some ⟨gn, 0, none⟩) := e10
                  have g10 : a.tmps[10]?.getD undef = .pointer (some ⟨gn, 0, none⟩) := by rw [← Array.getD_eq_getD_getElem?]; exact e10
                  refine op_val (.pointer (some ⟨gn, 0, none⟩)) ?_ hC (Below.refl _ _) (by intro d hd; cases hd; exact rfl)
                  (clear hV hI hC; go_simp <;> (first | rfl | simp))
                case ou83 =>
                  intro Q a w2 hC hV hI
                  have e82 : a.eval (.tmp 82) = .pointer (some ⟨gn, 0, none⟩) := hV 82 (by simp [Op.operands]) (by kernel_rfl)
                  have f82 : a.tmps.getD 82 undef = .pointer (some ⟨gn, 0, none⟩) := e82
                  have g82 : a.tmps[82]?.getD undef = .pointer (some ⟨gn, 0, none⟩) := by rw [← Array.getD_eq_getD_getElem?]; exact e82
                  obtain ⟨k0, k2, k4⟩ := KC.out w2 hC
                  refine op_val (.string ⟨#[117, 105, 100]⟩) ?_ hC (Below.refl _ _) (by intro d hd; cases hd; exact rfl)
                  (clear hV hI hC; go_simp <;> (first | rfl | simp))
                case ou84 =>
                  intro Q a w2 hC hV hI
                  have e10 : a.eval (.tmp 10) = .pointer (some ⟨gn, 0, none⟩) := (hI 10 (by simp [Op.operands]) (by kernel_rfl)).trans rfl
                  have f10 : a.tmps.getD 10 undef = .pointer (some ⟨gn, 0, none⟩) := e10
                  have g10 : a.tmps[10]?.getD undef = .pointer (some ⟨gn, 0, none⟩) := by rw [← Array.getD_eq_getD_getElem?]; exact e10
                  refine op_val (.pointer (some ⟨gn, 2, none⟩)) ?_ hC (Below.refl _ _) (by intro d hd; cases hd; exact rfl)
                  (clear hV hI hC; go_simp <;> (first | rfl | simp))
                case ou85 =>
                  intro Q a w2 hC hV hI
                  have e84 : a.eval (.tmp 84) = .pointer (some ⟨gn, 2, none⟩) := hV 84 (by simp [Op.operands]) (by kernel_rfl)
                  have f84 : a.tmps.getD 84 undef = .pointer (some ⟨gn, 2, none⟩) := e84
                  have g84 : a.tmps[84]?.getD undef = .pointer (some ⟨gn, 2, none⟩) := by rw [← Array.getD_eq_getD_getElem?]; exact e84
                  obtain ⟨k0, k2, k4⟩ := KC.out w2 hC
                  refine op_val (.pointer (some ⟨w.heap.size, 4, none⟩)) ?_ hC (Below.refl _ _) (by intro d hd; cases hd; exact rfl)
                  (clear hV hI hC; go_simp <;> (first | rfl | simp))
                case ou86 =>
                  intro Q a w2 hC hV hI
                  have e85 : a.eval (.tmp 85) = .pointer (some ⟨w.heap.size, 4, none⟩) := hV 85 (by simp [Op.operands]) (by kernel_rfl)
                  have f85 : a.tmps.getD 85 undef = .pointer (some ⟨w.heap.size, 4, none⟩) := e85
                  have g85 : a.tmps[85]?.getD undef = .pointer (some ⟨w.heap.size, 4, none⟩) := by rw [← Array.getD_eq_getD_getElem?]; exact e85
                  refine op_val (.pointer (some ⟨w.heap.size, 4, none⟩)) ?_ hC (Below.refl _ _) (by intro d hd; cases hd; exact rfl)
                  (clear hV hI hC; go_simp <;> (first | rfl | simp))
                case ou87 =>
                  intro Q a w2 hC hV hI
                  have e86 : a.eval (.tmp 86) = .pointer (some ⟨w.heap.size, 4, none⟩) := hV 86 (by simp [Op.operands]) (by kernel_rfl)
                  have f86 : a.tmps.getD 86 undef = .pointer (some ⟨w.heap.size, 4, none⟩) := e86
                  have g86 : a.tmps[86]?.getD undef = .pointer (some ⟨w.heap.size, 4, none⟩) := by rw [← Array.getD_eq_getD_getElem?]; exact e86
                  obtain ⟨k0, k2, k4⟩ := KC.out w2 hC
                  refine op_val (.int .i64 u) ?_ hC (Below.refl _ _) (by intro d hd; cases hd; exact rfl)
                  (clear hV hI hC; go_simp <;> (first | rfl | simp))
                case ou88 =>
                  intro Q a w2 hC hV hI
                  have e87 : a.eval (.tmp 87) = .int .i64 u := hV 87 (by simp [Op.operands, Call.operands]) (by kernel_rfl)
                  have f87 : a.tmps.getD 87 undef = .int .i64 u := e87
                  have g87 : a.tmps[87]?.getD undef = .int .i64 u := by rw [← Array.getD_eq_getD_getElem?]; exact e87
                  refine op_call (f := 62) (args := #[.int .i64 u]) (R := fun v y => v = .string (decTextv u) ∧ Below w2.heap.size w2 y) ?_ ((decText_impl u hu0 hu1 w2 (Lib.tabBelow_of_tabIs HT.out _ (B9.out.trans (hC.mono B9.out.size)))).mono ?_) ?_
                  · (clear hV hI hC; go_simp <;> (first | rfl | simp))
                  · rintro e y ⟨rfl, hb⟩; exact ⟨_, rfl, rfl, hb⟩
                  · rintro v y ⟨rfl, hb⟩; exact ⟨hC.trans (hb.mono hC.size), hb, by intro d hd; cases hd; exact rfl⟩
                case ou89 =>
                  intro Q a w2 hC hV hI
                  have e83 : a.eval (.tmp 83) = .string ⟨#[117, 105, 100]⟩ := hV 83 (by simp [Op.operands]) (by kernel_rfl)
                  have f83 : a.tmps.getD 83 undef = .string ⟨#[117, 105, 100]⟩ := e83
                  have g83 : a.tmps[83]?.getD undef = .string ⟨#[117, 105, 100]⟩ := by rw [← Array.getD_eq_getD_getElem?]; exact e83
                  have e88 : a.eval (.tmp 88) = .string (decTextv u) := hV 88 (by simp [Op.operands]) (by kernel_rfl)
                  have f88 : a.tmps.getD 88 undef = .string (decTextv u) := e88
                  have g88 : a.tmps[88]?.getD undef = .string (decTextv u) := by rw [← Array.getD_eq_getD_getElem?]; exact e88
                  refine op_val (.agg #[.string ⟨#[117, 105, 100]⟩, .string (decTextv u)]) ?_ hC (Below.refl _ _) (by intro d hd; cases hd; exact rfl)
                  (clear hV hI hC; go_simp <;> (first | rfl | simp))
                case ou90 =>
                  intro Q a w2 hC hV hI
                  have e89 : a.eval (.tmp 89) = .agg #[.string ⟨#[117, 105, 100]⟩, .string (decTextv u)] := hV 89 (by simp [Op.operands]) (by kernel_rfl)
                  have f89 : a.tmps.getD 89 undef = .agg #[.string ⟨#[117, 105, 100]⟩, .string (decTextv u)] := e89
                  have g89 : a.tmps[89]?.getD undef = .agg #[.string ⟨#[117, 105, 100]⟩, .string (decTextv u)] := by rw [← Array.getD_eq_getD_getElem?]; exact e89
                  refine op_val (.slice (some ⟨w2.heap.size, 0, none⟩) 1 1) (w' := w2.alloc (.cells #[.string ⟨#[117, 105, 100]⟩, .string (decTextv u)] 47)) ?_ (hC.alloc hC.size _) ((Below.refl _ _).alloc (Nat.le_refl _) _) ?_
                  · (clear hV hI hC; go_simp <;> (first | rfl | simp))
                  · intro d hd; cases hd; exact ⟨w2.heap.size, rfl, hC.size, heap_alloc_lastN _ _⟩
              case hendu =>
                intro f w8 hC hall
                simp only [List.take_succ_cons, List.take_zero, List.drop_succ_cons, List.drop_zero] at hall ⊢
                simp only [List.forall_mem_cons] at hall
                obtain ⟨h81, h82, h83, h84, h85, h86, h87, h88, h89, h90, _⟩ := hall
                replace h81 : f 81 = .slice (some ⟨gl, 0, none⟩) L2.length cl := h81 81 rfl
                replace h82 : f 82 = .pointer (some ⟨gn, 0, none⟩) := h82 82 rfl
                replace h83 : f 83 = .string ⟨#[117, 105, 100]⟩ := h83 83 rfl
                replace h84 : f 84 = .pointer (some ⟨gn, 2, none⟩) := h84 84 rfl
                replace h85 : f 85 = .pointer (some ⟨w.heap.size, 4, none⟩) := h85 85 rfl
                replace h86 : f 86 = .pointer (some ⟨w.heap.size, 4, none⟩) := h86 86 rfl
                replace h87 : f 87 = .int .i64 u := h87 87 rfl
                replace h88 : f 88 = .string (decTextv u) := h88 88 rfl
                replace h89 : f 89 = .agg #[.string ⟨#[117, 105, 100]⟩, .string (decTextv u)] := h89 89 rfl
                obtain ⟨G, hG, hGB, hGO⟩ : ∃ G, f 90 = .slice (some ⟨G, 0, none⟩) 1 1 ∧ w5.heap.size ≤ G ∧ w8.heap[G]? = some (.cells #[.string ⟨#[117, 105, 100]⟩, .string (decTextv u)] 47 (0, 0)) := h90 90 rfl
                simp only [putAll, Act.put, List.setIfInBounds_toArray, List.set_cons_succ, List.set_cons_zero, h81, h82, h83, h84, h85, h86, h87, h88, h89, hG]
                clear h81 h82 h83 h84 h85 h86 h87 h88 h89 hG
                have S8 := Lib.hid (ST.out.below hC)
                have N8 := Lib.hid ((hC.block gn (Array.getElem?_eq_some_iff.1 HNd.out).1).trans HNd.out)
                have OW := Lib.hid S8.out.1.1
                have zB := S8.out.2.2.2.size
                clear ST HNd KC hC
                go_wp2_with (at_builtin; refine wpList_append_own _ rfl _ _ 48 rfl w.heap.size 47 i0 (.agg #[.string ⟨#[]⟩, .string ⟨#[]⟩]) 2 32 Tryz.underlying48 hi0 hz0 hz1 hz2 rfl (by decide) _ L2.length (valsR L2) rfl ?c0r0 ⟨G, 0, none⟩ 1 1 (valsR [(⟨kUid, decTextv u⟩ : Rec)]) rfl (valsR_len _) ?c1r0 ?c2r0 ?c3r0 ?c4r0 ?c5r0 ?_)
                case c0r0 => exact OW.out
                case c1r0 => intro jj uu hu; rw [valsR_one] at hu; exact rowN hGO jj uu hu
                case c2r0 => exact valsR_onecell _
                any_goals (first | (simp only [maxLen]; omega) | omega | (simp; omega))
                intro v' w6 hown hgrow hnil
                have S6 := Lib.hid (I1.app2 S8.out hown hgrow hnil)
                have N6 := Lib.hid ((hgrow.block gn (Array.getElem?_eq_some_iff.1 N8.out).1 (own_neT S8.out.1.1 N8.out (by decide))).trans N8.out)
                clear S8 N8 OW hown hgrow hnil hGO
                have n2 : w6.cell? ⟨gn, 2, none⟩ = some (.pointer (some ⟨w.heap.size, 4, none⟩)) := by simp [World.cell?, N6.out]
                obtain ⟨ol, xa, xf, ze2⟩ := S6.out.ok
                obtain ⟨d0, d1, d2, d3, d4, d5, d6, d7, d8, d9⟩ := xa.zero
                have f9 := xf 4
                clear ol xa xf
                go_wp2_with fail
                go_meet
                case rel => rw [HN0.out, HL0.out]; exact ⟨rfl, rfl, S6.out.store 4 (.int .i64 0) rfl⟩
            · have hn : u3 = u := by rw [HB1.out, if_neg hq]
              have hL : L3 = L2 := by rw [HB2.out, if_neg hq]
              clear HB1 HB2 HE HL
              go_wp2_with fail
              go_meet
              case rel => rw [hn, hL]; exact ⟨rfl, rfl, ST.out⟩
          case rest =>
            obtain ⟨h70, h71, hI⟩ := hcut
            subst h70 h71
            clear ST HB1 HB2
            have ST := Lib.hid hI
            clear hI
            obtain ⟨gl, cl, hvl, _, _, _, _⟩ := ST.out.1.open
            subst hvl
            go_wp2_with fail
            rw [rounds_succ]
            have HB1 : Hid (bn 2097151 g = if 2097151 < g then 0 else g) := Lib.hid rfl
            have HB2 : Hid (bnL kGid 2097151 g L3 = if 2097151 < g then L3 ++ [⟨kGid, decTextv g⟩] else L3) := Lib.hid rfl
            have hl4 := bnL_len kGid 2097151 g L3
            generalize bn 2097151 g = g4 at HB1 HE ⊢
            generalize bnL kGid 2097151 g L3 = L4 at HB2 HL hl4 ⊢
            go_upto_block 1 with fail
            go_cut [4, 70, 71] (fun v v70 v71 wx => v70 = .agg #[.string ⟨#[117, 105, 100]⟩, .int .i64 2097151, .pointer (some ⟨w.heap.size, 4, none⟩), .string ⟨#[103, 105, 100]⟩, .int .i64 2097151, .pointer (some ⟨w.heap.size, 5, none⟩), .string ⟨#[109, 116, 105, 109, 101]⟩, .int .i64 8589934591, .pointer (some ⟨w.heap.size, 6, none⟩)] ∧ v71 = .int .i64 1 ∧ I1 w wx v L4 ⟨k, p1, l2, m, u3, g4, t, us, gr, b⟩)
            case first =>
              go_upto_region 16 with fail
              have STb := Lib.hid (ST.out.below ((Below.refl _ _).alloc (o := .cells #[.string ⟨#[103, 105, 100]⟩, .int .i64 2097151, .pointer (some ⟨w.heap.size, 5, none⟩)] 72) (Nat.le_refl _)))
              have NB := heap_alloc_lastN wc (.cells #[.string ⟨#[103, 105, 100]⟩, .int .i64 2097151, .pointer (some ⟨w.heap.size, 5, none⟩)] 72)
              generalize wc.alloc (.cells #[.string ⟨#[103, 105, 100]⟩, .int .i64 2097151, .pointer (some ⟨w.heap.size, 5, none⟩)] 72) = w4 at *
              generalize wc.heap.size = gn at *
              have HNB := Lib.hid NB
              have n0 : w4.cell? ⟨gn, 0, none⟩ = some (.string ⟨#[103, 105, 100]⟩) := by simp [World.cell?, NB]
              have n1 : w4.cell? ⟨gn, 1, none⟩ = some (.int .i64 2097151) := by simp [World.cell?, NB]
              have n2 : w4.cell? ⟨gn, 2, none⟩ = some (.pointer (some ⟨w.heap.size, 5, none⟩)) := by simp [World.cell?, NB]
              clear NB ST
              have ST := STb
              clear STb
              obtain ⟨ol, xa, xf, ze1⟩ := ST.out.ok
              have OW := Lib.hid ol.1
              obtain ⟨d0, d1, d2, d3, d4, d5, d6, d7, d8, d9⟩ := xa.zero
              have f1 := xf 1
              have f2 := xf 2
              have f4 := xf 4
              have f5 := xf 5
              have f6 := xf 6
              have zB := ST.out.2.2.2.size
              clear ol xa xf
              go_region
              have STd : Hid (I1 w w4.drew (.slice (some ⟨gl, 0, none⟩) L3.length cl) L3 ⟨k, p1, l2, m, u3, g, t, us, gr, b⟩) := Lib.hid ⟨ST.out.1, ST.out.2.1, ST.out.2.2.1, ST.out.2.2.2.drew⟩
              have HNd : Hid (w4.drew.heap[gn]? = some (.cells #[.string ⟨#[103, 105, 100]⟩, .int .i64 2097151, .pointer (some ⟨w.heap.size, 5, none⟩)] 72 (0, 0))) := Lib.hid HNB.out
              clear ST HNB OW n0 n1 n2 d0 d1 d2 d3 d4 d5 d6 d7 d8 d9 f1 f2 f4 f5 f6 ze1 zB
              generalize w4.drew = w5 at *
              have ST := STd
              clear STd
              by_cases hq : 2097151 < g
              · have hn : g4 = 0 := by rw [HB1.out, if_pos hq]
                have hL : L4 = L3 ++ [⟨kGid, decTextv g⟩] := by rw [HB2.out, if_pos hq]
                have HN0 := Lib.hid hn
                have HL0 := Lib.hid hL
                clear HB1 HB2 HE HL hn hL
                have B9 := Lib.hid ST.out.2.2.2
                have KC : Hid (∀ w', Below w5.heap.size w5 w' → w'.cell? ⟨gn, 0, none⟩ = some (.string ⟨#[103, 105, 100]⟩) ∧ w'.cell? ⟨gn, 2, none⟩ = some (.pointer (some ⟨w.heap.size, 5, none⟩)) ∧ w'.cell? ⟨w.heap.size, 5, none⟩ = some (.int .i64 g)) := Lib.hid (fun w' hb => by
                  have h1 := (hb.block gn (Array.getElem?_eq_some_iff.1 HNd.out).1).trans HNd.out
                  have h2 := (ST.out.2.1.below hb ST.out.2.1.lt).at 5 (by omega)
                  exact ⟨by simp [World.cell?, h1], by simp [World.cell?, h1], h2⟩)
                go_upto_region 17 with fail
                refine wp_region_cut 10 (by kernel_rfl) (fun w' => Below w5.heap.size w5 w') (fun x y => Below x.heap.size x y) (vSl w5.heap.size #[.string ⟨#[103, 105, 100]⟩, .string (decTextv g)] (fun d v => match d with | 81 => v = .slice (some ⟨gl, 0, none⟩) L3.length cl | 82 => v = .pointer (some ⟨gn, 0, none⟩) | 83 => v = .string ⟨#[103, 105, 100]⟩ | 84 => v = .pointer (some ⟨gn, 2, none⟩) | 85 => v = .pointer (some ⟨w.heap.size, 5, none⟩) | 86 => v = .pointer (some ⟨w.heap.size, 5, none⟩) | 87 => v = .int .i64 g | 88 => v = .string (decTextv g) | 89 => v = .agg #[.string ⟨#[103, 105, 100]⟩, .string (decTextv g)] | _ => True)) (by kernel_rfl) (by kernel_rfl) ((Below.refl _ _).drew) (vSl_keep _ _ _) (by simp) ?hopsg ?hendg
                case hopsg =>
                  simp only [List.take_succ_cons, List.take_zero, List.forall_mem_cons]
                  refine ⟨?og81, ?og82, ?og83, ?og84, ?og85, ?og86, ?og87, ?og88, ?og89, ?og90, fun _ h => by cases h⟩
                  case og81 =>
                    intro Q a w2 hC hV hI
                    have e4 : a.eval (.tmp 4) = .slice (some ⟨gl, 0, none⟩) L3.length cl := (hI 4 (by simp [Op.operands]) (by kernel_rfl)).trans rfl
                    have f4 : a.tmps.getD 4 undef = .slice (some ⟨gl, 0, none⟩) L3.length cl := e4
                    have g4 : a.tmps[4]?.getD undef = .slice (some ⟨gl, 0, none⟩) L3.length cl := by rw [← Array.getD_eq_getD_getElem?]; exact e4
                    refine op_val (.slice (some ⟨gl, 0, none⟩) L3.length cl) ?_ hC (Below.refl _ _) (by intro d hd; cases hd; exact rfl)
                    (clear hV hI hC; go_simp <;> (first | rfl | simp))
                  case og82 =>
                    intro Q a w2 hC hV hI
                    have e10 : a.eval (.tmp 10) = .pointer (some ⟨gn, 0, none⟩) := (hI 10 (by simp [Op.operands]) (by kernel_rfl)).trans rfl
                    have f10 : a.tmps.getD 10 undef = .pointer (some ⟨gn, 0, none⟩) := e10
                    have g10 : a.tmps[10]?.getD undef = .pointer (some ⟨gn, 0, none⟩) := by rw [← Array.getD_eq_getD_getElem?]; exact e10
                    refine op_val (.pointer (some ⟨gn, 0, none⟩)) ?_ hC (Below.refl _ _) (by intro d hd; cases hd; exact rfl)
                    (clear hV hI hC; go_simp <;> (first | rfl | simp))
                  case og83 =>
                    intro Q a w2 hC hV hI
                    have e82 : a.eval (.tmp 82) = .pointer (some ⟨gn, 0, none⟩) := hV 82 (by simp [Op.operands]) (by kernel_rfl)
                    have f82 : a.tmps.getD 82 undef = .pointer (some ⟨gn, 0, none⟩) := e82
                    have g82 : a.tmps[82]?.getD undef = .pointer (some ⟨gn, 0, none⟩) := by rw [← Array.getD_eq_getD_getElem?]; exact e82
                    obtain ⟨k0, k2, k4⟩ := KC.out w2 hC
                    refine op_val (.string ⟨#[103, 105, 100]⟩) ?_ hC (Below.refl _ _) (by intro d hd; cases hd; exact rfl)
                    (clear hV hI hC; go_simp <;> (first | rfl | simp))
                  case og84 =>
                    intro Q a w2 hC hV hI
                    have e10 : a.eval (.tmp 10) = .pointer (some ⟨gn, 0, none⟩) := (hI 10 (by simp [Op.operands]) (by kernel_rfl)).trans rfl
                    have f10 : a.tmps.getD 10 undef = .pointer (some ⟨gn, 0, none⟩) := e10
                    have g10 : a.tmps[10]?.getD undef = .pointer (some ⟨gn, 0, none⟩) := by rw [← Array.getD_eq_getD_getElem?]; exact e10
                    refine op_val (.pointer (some ⟨gn, 2, none⟩)) ?_ hC (Below.refl _ _) (by intro d hd; cases hd; exact rfl)
                    (clear hV hI hC; go_simp <;> (first | rfl | simp))
                  case og85 =>
                    intro Q a w2 hC hV hI
                    have e84 : a.eval (.tmp 84) = .pointer (some ⟨gn, 2, none⟩) := hV 84 (by simp [Op.operands]) (by kernel_rfl)
                    have f84 : a.tmps.getD 84 undef = .pointer (some ⟨gn, 2, none⟩) := e84
                    have g84 : a.tmps[84]?.getD undef = .pointer (some ⟨gn, 2, none⟩) := by rw [← Array.getD_eq_getD_getElem?]; exact e84
                    obtain ⟨k0, k2, k4⟩ := KC.out w2 hC
                    refine op_val (.pointer (some ⟨w.heap.size, 5, none⟩)) ?_ hC (Below.refl _ _) (by intro d hd; cases hd; exact rfl)
                    (clear hV hI hC; go_simp <;> (first | rfl | simp))
                  case og86 =>
                    intro Q a w2 hC hV hI
                    have e85 : a.eval (.tmp 85) = .pointer (some ⟨w.heap.size, 5, none⟩) := hV 85 (by simp [Op.operands]) (by kernel_rfl)
                    have f85 : a.tmps.getD 85 undef = .pointer (some ⟨w.heap.size, 5, none⟩) := e85
                    have g85 : a.tmps[85]?.getD undef = .pointer (some ⟨w.heap.size, 5, none⟩) := by rw [← Array.getD_eq_getD_getElem?]; exact e85
                    refine op_val (.pointer (some ⟨w.heap.size, 5, none⟩)) ?_ hC (Below.refl _ _) (by intro d hd; cases hd; exact rfl)
                    (clear hV hI hC; go_simp <;> (first | rfl | simp))
                  case og87 =>
                    intro Q a w2 hC hV hI
                    have e86 : a.eval (.tmp 86) = .pointer (some ⟨w.heap.size, 5, none⟩) := hV 86 (by simp [Op.operands]) (by kernel_rfl)
                    have f86 : a.tmps.getD 86 undef = .pointer (some ⟨w.heap.size, 5, none⟩) := e86
                    have g86 : a.tmps[86]?.getD undef = .pointer (some ⟨w.heap.size, 5, none⟩) := by rw [← Array.getD_eq_getD_getElem?]; exact e86
                    obtain ⟨k0, k2, k4⟩ := KC.out w2 hC
                    refine op_val (.int .i64 g) ?_ hC (Below.refl _ _) (by intro d hd; cases hd; exact rfl)
                    (clear hV hI hC; go_simp <;> (first | rfl | simp))
                  case og88 =>
                    intro Q a w2 hC hV hI
                    have e87 : a.eval (.tmp 87) = .int .i64 g := hV 87 (by simp [Op.operands, Call.operands]) (by kernel_rfl)
                    have f87 : a.tmps.getD 87 undef = .int .i64 g := e87
                    have g87 : a.tmps[87]?.getD undef = .int .i64 g := by rw [← Array.getD_eq_getD_getElem?]; exact e87
                    refine op_call (f := 62) (args := #[.int .i64 g]) (R := fun v y => v = .string (decTextv g) ∧ Below w2.heap.size w2 y) ?_ ((decText_impl g hg0 hg1 w2 (Lib.tabBelow_of_tabIs HT.out _ (B9.out.trans (hC.mono B9.out.size)))).mono ?_) ?_
                    · (clear hV hI hC; go_simp <;> (first | rfl | simp))
                    · rintro e y ⟨rfl, hb⟩; exact ⟨_, rfl, rfl, hb⟩
                    · rintro v y ⟨rfl, hb⟩; exact ⟨hC.trans (hb.mono hC.size), hb, by intro d hd; cases hd; exact rfl⟩
                  case og89 =>
                    intro Q a w2 hC hV hI
                    have e83 : a.eval (.tmp 83) = .string ⟨#[103, 105, 100]⟩ := hV 83 (by simp [Op.operands]) (by kernel_rfl)
                    have f83 : a.tmps.getD 83 undef = .string ⟨#[103, 105, 100]⟩ := e83
                    have g83 : a.tmps[83]?.getD undef = .string ⟨#[103, 105, 100]⟩ := by rw [← Array.getD_eq_getD_getElem?]; exact e83
                    have e88 : a.eval (.tmp 88) = .string (decTextv g) := hV 88 (by simp [Op.operands]) (by kernel_rfl)
                    have f88 : a.tmps.getD 88 undef = .string (decTextv g) := e88
                    have g88 : a.tmps[88]?.getD undef = .string (decTextv g) := by rw [← Array.getD_eq_getD_getElem?]; exact e88
                    refine op_val (.agg #[.string ⟨#[103, 105, 100]⟩, .string (decTextv g)]) ?_ hC (Below.refl _ _) (by intro d hd; cases hd; exact rfl)
                    (clear hV hI hC; go_simp <;> (first | rfl | simp))
                  case og90 =>
                    intro Q a w2 hC hV hI
                    have e89 : a.eval (.tmp 89) = .agg #[.string ⟨#[103, 105, 100]⟩, .string (decTextv g)] := hV 89 (by simp [Op.operands]) (by kernel_rfl)
                    have f89 : a.tmps.getD 89 undef = .agg #[.string ⟨#[103, 105, 100]⟩, .string (decTextv g)] := e89
                    have g89 : a.tmps[89]?.getD undef = .agg #[.string ⟨#[103, 105, 100]⟩, .string (decTextv g)] := by rw [← Array.getD_eq_getD_getElem?]; exact e89
                    refine op_val (.slice (some ⟨w2.heap.size, 0, none⟩) 1 1) (w' := w2.alloc (.cells #[.string ⟨#[103, 105, 100]⟩, .string (decTextv g)] 47)) ?_ (hC.alloc hC.size _) ((Below.refl _ _).alloc (Nat.le_refl _) _) ?_
                    · (clear hV hI hC; go_simp <;> (first | rfl | simp))
                    · intro d hd; cases hd; exact ⟨w2.heap.size, rfl, hC.size, heap_alloc_lastN _ _⟩
                case hendg =>
                  intro f w8 hC hall
                  simp only [List.take_succ_cons, List.take_zero, List.drop_succ_cons, List.drop_zero] at hall ⊢
                  simp only [List.forall_mem_cons] at hall
                  obtain ⟨h81, h82, h83, h84, h85, h86, h87, h88, h89, h90, _⟩ := hall
                  replace h81 : f 81 = .slice (some ⟨gl, 0, none⟩) L3.length cl := h81 81 rfl
                  replace h82 : f 82 = .pointer (some ⟨gn, 0, none⟩) := h82 82 rfl
                  replace h83 : f 83 = .string ⟨#[103, 105, 100]⟩ := h83 83 rfl
                  replace h84 : f 84 = .pointer (some ⟨gn, 2, none⟩) := h84 84 rfl
                  replace h85 : f 85 = .pointer (some ⟨w.heap.size, 5, none⟩) := h85 85 rfl
                  replace h86 : f 86 = .pointer (some ⟨w.heap.size, 5, none⟩) := h86 86 rfl
                  replace h87 : f 87 = .int .i64 g := h87 87 rfl
                  replace h88 : f 88 = .string (decTextv g) := h88 88 rfl
                  replace h89 : f 89 = .agg #[.string ⟨#[103, 105, 100]⟩, .string (decTextv g)] := h89 89 rfl
                  obtain ⟨G, hG, hGB, hGO⟩ : ∃ G, f 90 = .slice (some ⟨G, 0, none⟩) 1 1 ∧ w5.heap.size ≤ G ∧ w8.heap[G]? = some (.cells #[.string ⟨#[103, 105, 100]⟩, .string (decTextv g)] 47 (0, 0)) := h90 90 rfl
                  simp only [putAll, Act.put, List.setIfInBounds_toArray, List.set_cons_succ, List.set_cons_zero, h81, h82, h83, h84, h85, h86, h87, h88, h89, hG]
                  clear h81 h82 h83 h84 h85 h86 h87 h88 h89 hG
                  have S8 := Lib.hid (ST.out.below hC)
                  have N8 := Lib.hid ((hC.block gn (Array.getElem?_eq_some_iff.1 HNd.out).1).trans HNd.out)
                  have OW := Lib.hid S8.out.1.1
                  have zB := S8.out.2.2.2.size
                  clear ST HNd KC hC
                  go_wp2_with (at_builtin; refine wpList_append_own _ rfl _ _ 48 rfl w.heap.size 47 i0 (.agg #[.string ⟨#[]⟩, .string ⟨#[]⟩]) 2 32 Tryz.underlying48 hi0 hz0 hz1 hz2 rfl (by decide) _ L3.length (valsR L3) rfl ?c0r1 ⟨G, 0, none⟩ 1 1 (valsR [(⟨kGid, decTextv g⟩ : Rec)]) rfl (valsR_len _) ?c1r1 ?c2r1 ?c3r1 ?c4r1 ?c5r1 ?_)
                  case c0r1 => exact OW.out
                  case c1r1 => intro jj uu hu; rw [valsR_one] at hu; exact rowN hGO jj uu hu
                  case c2r1 => exact valsR_onecell _
                  any_goals (first | (simp only [maxLen]; omega) | omega | (simp; omega))
                  intro v' w6 hown hgrow hnil
                  have S6 := Lib.hid (I1.app2 S8.out hown hgrow hnil)
                  have N6 := Lib.hid ((hgrow.block gn (Array.getElem?_eq_some_iff.1 N8.out).1 (own_neT S8.out.1.1 N8.out (by decide))).trans N8.out)
                  clear S8 N8 OW hown hgrow hnil hGO
                  have n2 : w6.cell? ⟨gn, 2, none⟩ = some (.pointer (some ⟨w.heap.size, 5, none⟩)) := by simp [World.cell?, N6.out]
                  obtain ⟨ol, xa, xf, ze2⟩ := S6.out.ok
                  obtain ⟨d0, d1, d2, d3, d4, d5, d6, d7, d8, d9⟩ := xa.zero
                  have f9 := xf 5
                  clear ol xa xf
                  go_wp2_with fail
                  go_meet
                  case rel => rw [HN0.out, HL0.out]; exact ⟨rfl, rfl, S6.out.store 5 (.int .i64 0) rfl⟩
              · have hn : g4 = g := by rw [HB1.out, if_neg hq]
                have hL : L4 = L3 := by rw [HB2.out, if_neg hq]
                clear HB1 HB2 HE HL
                go_wp2_with fail
                go_meet
                case rel => rw [hn, hL]; exact ⟨rfl, rfl, ST.out⟩
            case rest =>
              obtain ⟨h70, h71, hI⟩ := hcut
              subst h70 h71
              clear ST HB1 HB2
              have ST := Lib.hid hI
              clear hI
              obtain ⟨gl, cl, hvl, _, _, _, _⟩ := ST.out.1.open
              subst hvl
              go_wp2_with fail
              rw [rounds_succ]
              have HB1 : Hid (bn 8589934591 t = if 8589934591 < t then 0 else t) := Lib.hid rfl
              have HB2 : Hid (bnL kTime 8589934591 t L4 = if 8589934591 < t then L4 ++ [⟨kTime, decTextv t⟩] else L4) := Lib.hid rfl
              have hl5 := bnL_len kTime 8589934591 t L4
              generalize bn 8589934591 t = t5 at HB1 HE ⊢
              generalize bnL kTime 8589934591 t L4 = L5 at HB2 HL hl5 ⊢
              go_upto_block 1 with fail
              go_cut [4, 70, 71] (fun v v70 v71 wx => v70 = .agg #[.string ⟨#[117, 105, 100]⟩, .int .i64 2097151, .pointer (some ⟨w.heap.size, 4, none⟩), .string ⟨#[103, 105, 100]⟩, .int .i64 2097151, .pointer (some ⟨w.heap.size, 5, none⟩), .string ⟨#[109, 116, 105, 109, 101]⟩, .int .i64 8589934591, .pointer (some ⟨w.heap.size, 6, none⟩)] ∧ v71 = .int .i64 2 ∧ I1 w wx v L5 ⟨k, p1, l2, m, u3, g4, t5, us, gr, b⟩)
              case first =>
                go_upto_region 16 with fail
                have STb := Lib.hid (ST.out.below ((Below.refl _ _).alloc (o := .cells #[.string ⟨#[109, 116, 105, 109, 101]⟩, .int .i64 8589934591, .pointer (some ⟨w.heap.size, 6, none⟩)] 72) (Nat.le_refl _)))
                have NB := heap_alloc_lastN wc (.cells #[.string ⟨#[109, 116, 105, 109, 101]⟩, .int .i64 8589934591, .pointer (some ⟨w.heap.size, 6, none⟩)] 72)
                generalize wc.alloc (.cells #[.string ⟨#[109, 116, 105, 109, 101]⟩, .int .i64 8589934591, .pointer (some ⟨w.heap.size, 6, none⟩)] 72) = w4 at *
                generalize wc.heap.size = gn at *
                have HNB := Lib.hid NB
                have n0 : w4.cell? ⟨gn, 0, none⟩ = some (.string ⟨#[109, 116, 105, 109, 101]⟩) := by simp [World.cell?, NB]
                have n1 : w4.cell? ⟨gn, 1, none⟩ = some (.int .i64 8589934591) := by simp [World.cell?, NB]
                have n2 : w4.cell? ⟨gn, 2, none⟩ = some (.pointer (some ⟨w.heap.size, 6, none⟩)) := by simp [World.cell?, NB]
                clear NB ST
                have ST := STb
                clear STb
                obtain ⟨ol, xa, xf, ze1⟩ := ST.out.ok
                have OW := Lib.hid ol.1
                obtain ⟨d0, d1, d2, d3, d4, d5, d6, d7, d8, d9⟩ := xa.zero
                have f1 := xf 1
                have f2 := xf 2
                have f4 := xf 4
                have f5 := xf 5
                have f6 := xf 6
                have zB := ST.out.2.2.2.size
                clear ol xa xf
                go_region
                have STd : Hid (I1 w w4.drew (.slice (some ⟨gl, 0, none⟩) L4.length cl) L4 ⟨k, p1, l2, m, u3, g4, t, us, gr, b⟩) := Lib.hid ⟨ST.out.1, ST.out.2.1, ST.out.2.2.1, ST.out.2.2.2.drew⟩
                have HNd : Hid (w4.drew.heap[gn]? = some (.cells #[.string ⟨#[109, 116, 105, 109, 101]⟩, .int .i64 8589934591, .pointer (some ⟨w.heap.size, 6, none⟩)] 72 (0, 0))) := Lib.hid HNB.out
                clear ST HNB OW n0 n1 n2 d0 d1 d2 d3 d4 d5 d6 d7 d8 d9 f1 f2 f4 f5 f6 ze1 zB
                generalize w4.drew = w5 at *
                have ST := STd
                clear STd
                by_cases hq : 8589934591 < t
                · have hn : t5 = 0 := by rw [HB1.out, if_pos hq]
                  have hL : L5 = L4 ++ [⟨kTime, decTextv t⟩] := by rw [HB2.out, if_pos hq]
                  have HN0 := Lib.hid hn
                  have HL0 := Lib.hid hL
                  clear HB1 HB2 HE HL hn hL
                  have B9 := Lib.hid ST.out.2.2.2
                  have KC : Hid (∀ w', Below w5.heap.size w5 w' → w'.cell? ⟨gn, 0, none⟩ = some (.string ⟨#[109, 116, 105, 109, 101]⟩) ∧ w'.cell? ⟨gn, 2, none⟩ = some (.pointer (some ⟨w.heap.size, 6, none⟩)) ∧ w'.cell? ⟨w.heap.size, 6, none⟩ = some (.int .i64 t)) := Lib.hid (fun w' hb => by
                    have h1 := (hb.block gn (Array.getElem?_eq_some_iff.1 HNd.out).1).trans HNd.out
                    have h2 := (ST.out.2.1.below hb ST.out.2.1.lt).at 6 (by omega)
                    exact ⟨by simp [World.cell?, h1], by simp [World.cell?, h1], h2⟩)
                  go_upto_region 17 with fail
                  refine wp_region_cut 10 (by kernel_rfl) (fun w' => Below w5.heap.size w5 w') (fun x y => Below x.heap.size x y) (vSl w5.heap.size #[.string ⟨#[109, 116, 105, 109, 101]⟩, .string (decTextv t)] (fun d v => match d with | 81 => v = .slice (some ⟨gl, 0, none⟩) L4.length cl | 82 => v = .pointer (some ⟨gn, 0, none⟩) | 83 => v = .string ⟨#[109, 116, 105, 109, 101]⟩ | 84 => v = .pointer (some ⟨gn, 2, none⟩) | 85 => v = .pointer (some ⟨w.heap.size, 6, none⟩) | 86 => v = .pointer (some ⟨w.heap.size, 6, none⟩) | 87 => v = .int .i64 t | 88 => v = .string (decTextv t) | 89 => v = .agg #[.string ⟨#[109, 116, 105, 109, 101]⟩, .string (decTextv t)] | _ => True)) (by kernel_rfl) (by kernel_rfl) ((Below.refl _ _).drew) (vSl_keep _ _ _) (by simp) ?hopst ?hendt
                  case hopst =>
                    simp only [List.take_succ_cons, List.take_zero, List.forall_mem_cons]
                    refine ⟨?ot81, ?ot82, ?ot83, ?ot84, ?ot85, ?ot86, ?ot87, ?ot88, ?ot89, ?ot90, fun _ h => by cases h⟩
                    case ot81 =>
                      intro Q a w2 hC hV hI
                      have e4 : a.eval (.tmp 4) = .slice (some ⟨gl, 0, none⟩) L4.length cl := (hI 4 (by simp [Op.operands]) (by kernel_rfl)).trans rfl
                      have f4 : a.tmps.getD 4 undef = .slice (some ⟨gl, 0, none⟩) L4.length cl := e4
                      have g4 : a.tmps[4]?.getD undef = .slice (some ⟨gl, 0, none⟩) L4.length cl := by rw [← Array.getD_eq_getD_getElem?]; exact e4
                      refine op_val (.slice (some ⟨gl, 0, none⟩) L4.length cl) ?_ hC (Below.refl _ _) (by intro d hd; cases hd; exact rfl)
                      (clear hV hI hC; go_simp <;> (first | rfl | simp))
                    case ot82 =>
                      intro Q a w2 hC hV hI
                      have e10 : a.eval (.tmp 10) = .pointer (some ⟨gn, 0, none⟩) := (hI 10 (by simp [Op.operands]) (by kernel_rfl)).trans rfl
                      have f10 : a.tmps.getD 10 undef = .pointer (some ⟨gn, 0, none⟩) := e10
                      have g10 : a.tmps[10]?.getD undef = .pointer (some ⟨gn, 0, none⟩) := by rw [← Array.getD_eq_getD_getElem?]; exact e10
                      refine op_val (.pointer (some ⟨gn, 0, none⟩)) ?_ hC (Below.refl _ _) (by intro d hd; cases hd; exact rfl)
                      (clear hV hI hC; go_simp <;> (first | rfl | simp))
                    case ot83 =>
                      intro Q a w2 hC hV hI
                      have e82 : a.eval (.tmp 82) = .pointer (some ⟨gn, 0, none⟩) := hV 82 (by simp [Op.operands]) (by kernel_rfl)
                      have f82 : a.tmps.getD 82 undef = .pointer (some ⟨gn, 0, none⟩) := e82
                      have g82 : a.tmps[82]?.getD undef = .pointer (some ⟨gn, 0, none⟩) := by rw [← Array.getD_eq_getD_getElem?]; exact e82
                      obtain ⟨k0, k2, k4⟩ := KC.out w2 hC
                      refine op_val (.string ⟨#[109, 116, 105, 109, 101]⟩) ?_ hC (Below.refl _ _) (by intro d hd; cases hd; exact rfl)
                      (clear hV hI hC; go_simp <;> (first | rfl | simp))
                    case ot84 =>
                      intro Q a w2 hC hV hI
                      have e10 : a.eval (.tmp 10) = .pointer (some ⟨gn, 0, none⟩) := (hI 10 (by simp [Op.operands]) (by kernel_rfl)).trans rfl
                      have f10 : a.tmps.getD 10 undef = .pointer (some ⟨gn, 0, none⟩) := e10
                      have g10 : a.tmps[10]?.getD undef = .pointer (some ⟨gn, 0, none⟩) := by rw [← Array.getD_eq_getD_getElem?]; exact e10
                      refine op_val (.pointer (some ⟨gn, 2, none⟩)) ?_ hC (Below.refl _ _) (by intro d hd; cases hd; exact rfl)
                      (clear hV hI hC; go_simp <;> (first | rfl | simp))
                    case ot85 =>
                      intro Q a w2 hC hV hI
                      have e84 : a.eval (.tmp 84) = .pointer (some ⟨gn, 2, none⟩) := hV 84 (by simp [Op.operands]) (by kernel_rfl)
                      have f84 : a.tmps.getD 84 undef = .pointer (some ⟨gn, 2, none⟩) := e84
                      have g84 : a.tmps[84]?.getD undef = .pointer (some ⟨gn, 2, none⟩) := by rw [← Array.getD_eq_getD_getElem?]; exact e84
                      obtain ⟨k0, k2, k4⟩ := KC.out w2 hC
                      refine op_val (.pointer (some ⟨w.heap.size, 6, none⟩)) ?_ hC (Below.refl _ _) (by intro d hd; cases hd; exact rfl)
                      (clear hV hI hC; go_simp <;> (first | rfl | simp))
                    case ot86 =>
                      intro Q a w2 hC hV hI
                      have e85 : a.eval (.tmp 85) = .pointer (some ⟨w.heap.size, 6, none⟩) := hV 85 (by simp [Op.operands]) (by kernel_rfl)
                      have f85 : a.tmps.getD 85 undef = .pointer (some ⟨w.heap.size, 6, none⟩) := e85
                      have g85 : a.tmps[85]?.getD undef = .pointer (some ⟨w.heap.size, 6, none⟩) := by rw [← Array.getD_eq_getD_getElem?]; exact e85
                      refine op_val (.pointer (some ⟨w.heap.size, 6, none⟩)) ?_ hC (Below.refl _ _) (by intro d hd; cases hd; exact rfl)
                      (clear hV hI hC; go_simp <;> (first | rfl | simp))
                    case ot87 =>
                      intro Q a w2 hC hV hI
                      have e86 : a.eval (.tmp 86) = .pointer (some ⟨w.heap.size, 6, none⟩) := hV 86 (by simp [Op.operands]) (by kernel_rfl)
                      have f86 : a.tmps.getD 86 undef = .pointer (some ⟨w.heap.size, 6, none⟩) := e86
                      have g86 : a.tmps[86]?.getD undef = .pointer (some ⟨w.heap.size, 6, none⟩) := by rw [← Array.getD_eq_getD_getElem?]; exact e86
                      obtain ⟨k0, k2, k4⟩ := KC.out w2 hC
                      refine op_val (.int .i64 t) ?_ hC (Below.refl _ _) (by intro d hd; cases hd; exact rfl)
                      (clear hV hI hC; go_simp <;> (first | rfl | simp))
                    case ot88 =>
                      intro Q a w2 hC hV hI
                      have e87 : a.eval (.tmp 87) = .int .i64 t := hV 87 (by simp [Op.operands, Call.operands]) (by kernel_rfl)
                      have f87 : a.tmps.getD 87 undef = .int .i64 t := e87
                      have g87 : a.tmps[87]?.getD undef = .int .i64 t := by rw [← Array.getD_eq_getD_getElem?]; exact e87
                      refine op_call (f := 62) (args := #[.int .i64 t]) (R := fun v y => v = .string (decTextv t) ∧ Below w2.heap.size w2 y) ?_ ((decText_impl t ht0 ht1 w2 (Lib.tabBelow_of_tabIs HT.out _ (B9.out.trans (hC.mono B9.out.size)))).mono ?_) ?_
                      · (clear hV hI hC; go_simp <;> (first | rfl | simp))
                      · rintro e y ⟨rfl, hb⟩; exact ⟨_, rfl, rfl, hb⟩
                      · rintro v y ⟨rfl, hb⟩; exact ⟨hC.trans (hb.mono hC.size), hb, by intro d hd; cases hd; exact rfl⟩
                    case ot89 =>
                      intro Q a w2 hC hV hI
                      have e83 : a.eval (.tmp 83) = .string ⟨#[109, 116, 105, 109, 101]⟩ := hV 83 (by simp [Op.operands]) (by kernel_rfl)
                      have f83 : a.tmps.getD 83 undef = .string ⟨#[109, 116, 105, 109, 101]⟩ := e83
                      have g83 : a.tmps[83]?.getD undef = .string ⟨#[109, 116, 105, 109, 101]⟩ := by rw [← Array.getD_eq_getD_getElem?]; exact e83
                      have e88 : a.eval (.tmp 88) = .string (decTextv t) := hV 88 (by simp [Op.operands]) (by kernel_rfl)
                      have f88 : a.tmps.getD 88 undef = .string (decTextv t) := e88
                      have g88 : a.tmps[88]?.getD undef = .string (decTextv t) := by rw [← Array.getD_eq_getD_getElem?]; exact e88
                      refine op_val (.agg #[.string ⟨#[109, 116, 105, 109, 101]⟩, .string (decTextv t)]) ?_ hC (Below.refl _ _) (by intro d hd; cases hd; exact rfl)
                      (clear hV hI hC; go_simp <;> (first | rfl | simp))
                    case ot90 =>
                      intro Q a w2 hC hV hI
                      have e89 : a.eval (.tmp 89) = .agg #[.string ⟨#[109, 116, 105, 109, 101]⟩, .string (decTextv t)] := hV 89 (by simp [Op.operands]) (by kernel_rfl)
                      have f89 : a.tmps.getD 89 undef = .agg #[.string ⟨#[109, 116, 105, 109, 101]⟩, .string (decTextv t)] := e89
                      have g89 : a.tmps[89]?.getD undef = .agg #[.string ⟨#[109, 116, 105, 109, 101]⟩, .string (decTextv t)] := by rw [← Array.getD_eq_getD_getElem?]; exact e89
                      refine op_val (.slice (some ⟨w2.heap.size, 0, none⟩) 1 1) (w' := w2.alloc (.cells #[.string ⟨#[109, 116, 105, 109, 101]⟩, .string (decTextv t)] 47)) ?_ (hC.alloc hC.size _) ((Below.refl _ _).alloc (Nat.le_refl _) _) ?_
                      · (clear hV hI hC; go_simp <;> (first | rfl | simp))
                      · intro d hd; cases hd; exact ⟨w2.heap.size, rfl, hC.size, heap_alloc_lastN _ _⟩
                  case hendt =>
                    intro f w8 hC hall
                    simp only [List.take_succ_cons, List.take_zero, List.drop_succ_cons, List.drop_zero] at hall ⊢
                    simp only [List.forall_mem_cons] at hall
                    obtain ⟨h81, h82, h83, h84, h85, h86, h87, h88, h89, h90, _⟩ := hall
                    replace h81 : f 81 = .slice (some ⟨gl, 0, none⟩) L4.length cl := h81 81 rfl
                    replace h82 : f 82 = .pointer (some ⟨gn, 0, none⟩) := h82 82 rfl
                    replace h83 : f 83 = .string ⟨#[109, 116, 105, 109, 101]⟩ := h83 83 rfl
                    replace h84 : f 84 = .pointer (some ⟨gn, 2, none⟩) := h84 84 rfl
                    replace h85 : f 85 = .pointer (some ⟨w.heap.size, 6, none⟩) := h85 85 rfl
                    replace h86 : f 86 = .pointer (some ⟨w.heap.size, 6, none⟩) := h86 86 rfl
                    replace h87 : f 87 = .int .i64 t := h87 87 rfl
                    replace h88 : f 88 = .string (decTextv t) := h88 88 rfl
                    replace h89 : f 89 = .agg #[.string ⟨#[109, 116, 105, 109, 101]⟩, .string (decTextv t)] := h89 89 rfl
                    obtain ⟨G, hG, hGB, hGO⟩ : ∃ G, f 90 = .slice (some ⟨G, 0, none⟩) 1 1 ∧ w5.heap.size ≤ G ∧ w8.heap[G]? = some (.cells #[.string ⟨#[109, 116, 105, 109, 101]⟩, .string (decTextv t)] 47 (0, 0)) := h90 90 rfl
                    simp only [putAll, Act.put, List.setIfInBounds_toArray, List.set_cons_succ, List.set_cons_zero, h81, h82, h83, h84, h85, h86, h87, h88, h89, hG]
                    clear h81 h82 h83 h84 h85 h86 h87 h88 h89 hG
                    have S8 := Lib.hid (ST.out.below hC)
                    have N8 := Lib.hid ((hC.block gn (Array.getElem?_eq_some_iff.1 HNd.out).1).trans HNd.out)
                    have OW := Lib.hid S8.out.1.1
                    have zB := S8.out.2.2.2.size
                    clear ST HNd KC hC
                    go_wp2_with (at_builtin; refine wpList_append_own _ rfl _ _ 48 rfl w.heap.size 47 i0 (.agg #[.string ⟨#[]⟩, .string ⟨#[]⟩]) 2 32 Tryz.underlying48 hi0 hz0 hz1 hz2 rfl (by decide) _ L4.length (valsR L4) rfl ?c0r2 ⟨G, 0, none⟩ 1 1 (valsR [(⟨kTime, decTextv t⟩ : Rec)]) rfl (valsR_len _) ?c1r2 ?c2r2 ?c3r2 ?c4r2 ?c5r2 ?_)
                    case c0r2 => exact OW.out
                    case c1r2 => intro jj uu hu; rw [valsR_one] at hu; exact rowN hGO jj uu hu
                    case c2r2 => exact valsR_onecell _
                    any_goals (first | (simp only [maxLen]; omega) | omega | (simp; omega))
                    intro v' w6 hown hgrow hnil
                    have S6 := Lib.hid (I1.app2 S8.out hown hgrow hnil)
                    have N6 := Lib.hid ((hgrow.block gn (Array.getElem?_eq_some_iff.1 N8.out).1 (own_neT S8.out.1.1 N8.out (by decide))).trans N8.out)
                    clear S8 N8 OW hown hgrow hnil hGO
                    have n2 : w6.cell? ⟨gn, 2, none⟩ = some (.pointer (some ⟨w.heap.size, 6, none⟩)) := by simp [World.cell?, N6.out]
                    obtain ⟨ol, xa, xf, ze2⟩ := S6.out.ok
                    obtain ⟨d0, d1, d2, d3, d4, d5, d6, d7, d8, d9⟩ := xa.zero
                    have f9 := xf 6
                    clear ol xa xf
                    go_wp2_with fail
                    go_meet
                    case rel => rw [HN0.out, HL0.out]; exact ⟨rfl, rfl, S6.out.store 6 (.int .i64 0) rfl⟩
                · have hn : t5 = t := by rw [HB1.out, if_neg hq]
                  have hL : L5 = L4 := by rw [HB2.out, if_neg hq]
                  clear HB1 HB2 HE HL
                  go_wp2_with fail
                  go_meet
                  case rel => rw [hn, hL]; exact ⟨rfl, rfl, ST.out⟩
              case rest =>
                obtain ⟨h70, h71, hI⟩ := hcut
                subst h70 h71
                clear ST HB1 HB2
                have ST := Lib.hid hI
                clear hI
                obtain ⟨gl, cl, hvl, _, _, _, _⟩ := ST.out.1.open
                subst hvl
                go_wp2_with fail
                rw [rounds_succ]
                obtain ⟨o, a, c, d⟩ := ST.out
                have OL := Lib.hid o
                have RO := Lib.hid c
                have B := Lib.hid d
                obtain ⟨x0, x1, x2, x3, x4, x5, x6, x7, x8, x9⟩ := a.at.zero
                obtain ⟨d0, d1, d2, d3, d4, d5, d6, d7, d8, d9⟩ := RO.out.at.zero
                have f0 := RO.out.fz 0
                have f1 := RO.out.fz 1
                have f2 := RO.out.fz 2
                have f3 := RO.out.fz 3
                have f4 := RO.out.fz 4
                have f5 := RO.out.fz 5
                have f6 := RO.out.fz 6
                have f7 := RO.out.fz 7
                have f8 := RO.out.fz 8
                have f9 := RO.out.fz 9
                have hne := own_neE o.1 c
                clear o a c d ST
                have HF : Hid (rE = ⟨k, p1, l2, m, u3, g4, t5, us, gr, b⟩) := Lib.hid HE.out
                have HG : Hid (rL = L5) := Lib.hid HL.out
                clear HE HL
                go_wp2_with fail
                have RP := RO.out.put ⟨k, p1, l2, m, u3, g4, t5, us, gr, b⟩
                have BP := below_putE (g := w.heap.size + 1) B.out (by omega) ⟨k, p1, l2, m, u3, g4, t5, us, gr, b⟩
                have OP := OwnR.kept (w' := putE wc (w.heap.size + 1) ⟨k, p1, l2, m, u3, g4, t5, us, gr, b⟩) OL.out (row := some (w.heap.size + 1)) (grown_putE wc _ _) (fun e => hne (by rw [← e]; rfl))
                simp only [putE] at RP BP OP
                refine bodyPost_ret (res_ent2 rfl _ rfl RP) rfl ?_
                exact ⟨⟨_, by rw [HF.out], by rw [HG.out]; exact OP⟩, BP⟩
end Go.Proofs.YtgpgkgahbkmdiaaGreatDoor

/- Maps from texts to numbers, and sets of texts, that a call makes. -/
namespace Go.Proofs.YtgpgkgahbkmdiaaGreatDoor
open Go.ChangeShapes Go.WideShapes Go.ChangeAt Go.RowKit Go.Maps

theorem lawS : Keyed Tryz.prog 9 := string_keyed Tryz.underlying9
theorem zeroN (w : World) : (zeroValue 3).run Tryz.prog w = .ok (.int .i64 0) w := by kernel_rfl
def keyS (s : ByteArray) : Lit := .string s.data.toList
theorem key_of {s : ByteArray} (h : s.size ≤ maxLen) : keyOf Tryz.prog 9 (.string s) = some (keyS s) := WideMaps.keyOf_string_mk Tryz.underlying9 h
theorem keyS_ne {a b : ByteArray} (h : ¬ a = b) : keyS a ≠ keyS b := by
  intro e
  apply h
  exact ba_ext (by simpa [keyS] using e)
theorem keyS_lit (a : ByteArray) : WideAt.IsKeyLit (keyS a) := trivial
/-- What the map D tells of each text. -/
def MapIs (D : DataW Unit) (M : ByteArray → Option Int) : Prop := IsMap D ∧ ∀ s, Maps.has D (keyS s) = (M s).isSome ∧ ∀ c, M s = some c → D.atKey (keyS s) (.lit (.int .i64 0)) = .lit (.int .i64 c)
/-- Block b is a map from texts to numbers of at most n entries. -/
def MapAt (w : World) (b n : Nat) (M : ByteArray → Option Int) : Prop := ∃ D : DataW Unit, w.ownsMap Tryz.prog 9 (plainElem Tryz.prog 3) b n D ∧ MapIs D M
def putM (M : ByteArray → Option Int) (s : ByteArray) (c : Int) : ByteArray → Option Int := fun t => if t = s then some c else M t
theorem MapIs.put {D : DataW Unit} {M : ByteArray → Option Int} (h : MapIs D M) (s : ByteArray) (c : Int) : MapIs (D.put (keyS s) (.lit (.int .i64 c))) (putM M s c) := by
  refine ⟨h.1.put _ _, fun t => ?_⟩
  by_cases e : t = s
  · subst e
    refine ⟨by rw [Maps.has_put_same h.1 (keyS_lit _)]; simp [putM], fun d hd => ?_⟩
    rw [Maps.atKey_put_same h.1 (keyS_lit _)]
    simp [putM] at hd
    rw [hd]
  · refine ⟨by rw [Maps.has_put_other (keyS_ne e), (h.2 t).1]; simp [putM, e], fun d hd => ?_⟩
    rw [Maps.atKey_put_other (keyS_ne e)]
    simp [putM, e] at hd
    exact (h.2 t).2 d hd
theorem mapIs_empty : MapIs (.map []) (fun _ => none) := ⟨isMap_empty, fun _ => ⟨rfl, fun _ h => by cases h⟩⟩
theorem mapAt_made (w : World) : MapAt (w.alloc (.map #[] 0)) w.heap.size 0 (fun _ => none) := ⟨.map [], World.ownsMap_made w _ _ _, mapIs_empty⟩
theorem MapAt.kept {w w' : World} {b n : Nat} {M : ByteArray → Option Int} {row : Option Nat} (h : MapAt w b n M) (hg : w.grownBy w' row) (hne : some b ≠ row) : MapAt w' b n M := by
  obtain ⟨D, ho, hs⟩ := h
  exact ⟨D, World.ownsMap.kept ho hg hne, hs⟩
theorem ownsMap_below {w w' : World} {k : TypeId} {R : Value → Option (DataW Unit × List MemPlace)} {b n : Nat} {D : DataW Unit} (h : w.ownsMap Tryz.prog k R b n D) (hb : Below w.heap.size w w') : w'.ownsMap Tryz.prog k R b n D :=
  World.ownsMap.kept h (row := none) ⟨hb.os, hb.tape, hb.output, hb.size, fun k hk _ => hb.block k hk⟩ (by simp)
theorem MapAt.below {w w' : World} {b n : Nat} {M : ByteArray → Option Int} (h : MapAt w b n M) (hb : Below w.heap.size w w') : MapAt w' b n M := by
  obtain ⟨D, ho, hs⟩ := h
  exact ⟨D, ownsMap_below ho hb, hs⟩
theorem MapAt.lt {w : World} {b n : Nat} {M : ByteArray → Option Int} (h : MapAt w b n M) : b < w.heap.size := by
  obtain ⟨D, ho, _⟩ := h
  exact World.ownsMap.lt ho
/-- The set D of texts. -/
def SetSIs (D : DataW Unit) (T : ByteArray → Bool) : Prop := IsMap D ∧ ∀ s, Maps.has D (keyS s) = T s
def SetSAt (w : World) (b n : Nat) (T : ByteArray → Bool) : Prop := ∃ D : DataW Unit, w.ownsMap Tryz.prog 9 (unitElem (H := Unit)) b n D ∧ SetSIs D T
def putT (T : ByteArray → Bool) (s : ByteArray) : ByteArray → Bool := fun t => decide (t = s) || T t
theorem SetSIs.put {D : DataW Unit} {T : ByteArray → Bool} (h : SetSIs D T) (s : ByteArray) (u : DataW Unit) : SetSIs (D.put (keyS s) u) (putT T s) := by
  refine ⟨h.1.put _ _, fun t => ?_⟩
  by_cases e : t = s
  · subst e
    rw [Maps.has_put_same h.1 (keyS_lit _)]; simp [putT]
  · rw [Maps.has_put_other (keyS_ne e), h.2 t]; simp [putT, e]
theorem setS_made (w : World) : SetSAt (w.alloc (.map #[] 0)) w.heap.size 0 (fun _ => false) := ⟨.map [], World.ownsMap_made w _ _ _, isMap_empty, fun _ => rfl⟩
theorem SetSAt.kept {w w' : World} {b n : Nat} {T : ByteArray → Bool} {row : Option Nat} (h : SetSAt w b n T) (hg : w.grownBy w' row) (hne : some b ≠ row) : SetSAt w' b n T := by
  obtain ⟨D, ho, hs⟩ := h
  exact ⟨D, World.ownsMap.kept ho hg hne, hs⟩
theorem SetSAt.below {w w' : World} {b n : Nat} {T : ByteArray → Bool} (h : SetSAt w b n T) (hb : Below w.heap.size w w') : SetSAt w' b n T := by
  obtain ⟨D, ho, hs⟩ := h
  exact ⟨D, ownsMap_below ho hb, hs⟩
theorem SetSAt.lt {w : World} {b n : Nat} {T : ByteArray → Bool} (h : SetSAt w b n T) : b < w.heap.size := by
  obtain ⟨D, ho, _⟩ := h
  exact World.ownsMap.lt ho
end Go.Proofs.YtgpgkgahbkmdiaaGreatDoor

/- ListOk by the kinds of the entries so far: plain mathematics. -/
namespace Go.Proofs.YtgpgkgahbkmdiaaGreatDoor
open Go.RowKit

/-- The kind of the first entry with a path. -/
def kindOf (L : List Ent) (p : ByteArray) : Option Int := (L.find? fun e => decide (e.path = p)).map Ent.kind
theorem findFrom_kind (L : List Ent) (p : ByteArray) (i : Nat) : (kindOf L p = none ∧ findFrom L p i = -1) ∨ ∃ (a : Nat) (e : Ent), kindOf L p = some e.kind ∧ findFrom L p i = ((i + a : Nat) : Int) ∧ L[a]? = some e ∧ e.path = p := by
  induction L generalizing i with
  | nil => exact .inl ⟨rfl, rfl⟩
  | cons e L ih =>
    rw [findFrom]
    by_cases h : e.path = p
    · exact .inr ⟨0, e, by simp [kindOf, h], by simp [h], rfl, h⟩
    · rw [if_neg h]
      have hk : kindOf (e :: L) p = kindOf L p := by simp [kindOf, h]
      rw [hk]
      rcases ih (i + 1) with h1 | ⟨a, e', h0, h1, h2, h3⟩
      · exact .inl h1
      · exact .inr ⟨a + 1, e', h0, by rw [h1]; congr 1; omega, by simpa using h2, h3⟩
theorem find_kind (L : List Ent) (p : ByteArray) : (kindOf L p = none ∧ findv L p = -1) ∨ ∃ (a : Nat) (e : Ent), kindOf L p = some e.kind ∧ findv L p = (a : Int) ∧ L[a]? = some e ∧ e.path = p := by
  rcases findFrom_kind L p 0 with h | ⟨a, e, h0, h1, h2, h3⟩
  · exact .inl h
  · exact .inr ⟨a, e, h0, by rw [findv, h1]; simp, h2, h3⟩
theorem fileAt_kind (L : List Ent) (p : ByteArray) : fileAt L p = decide (kindOf L p = some 0) := by
  rcases find_kind L p with ⟨h, h1⟩ | ⟨a, e, h, h1, h2, _⟩
  · rw [fileAt_none h1, h]; simp
  · rw [fileAt_some h1 h2, h]; simp
theorem findFrom_app (L M : List Ent) (p : ByteArray) (i : Nat) : findFrom (L ++ M) p i = if kindOf L p = none then findFrom M p (i + L.length) else findFrom L p i := by
  induction L generalizing i with
  | nil => simp [kindOf]
  | cons e L ih =>
    rw [List.cons_append, findFrom]
    by_cases h : e.path = p
    · simp [kindOf, h, findFrom]
    · have hk : kindOf (e :: L) p = kindOf L p := by simp [kindOf, h]
      rw [if_neg h, ih, hk]
      simp only [List.length_cons, findFrom, if_neg h]
      rw [show i + 1 + L.length = i + (L.length + 1) from by omega]
theorem find_self {L : List Ent} {i : Nat} {e : Ent} (he : L[i]? = some e) : findv L e.path = (i : Int) ↔ kindOf (L.take i) e.path = none := by
  have hlt : i < L.length := (List.getElem?_eq_some_iff.1 he).1
  have hL : L = L.take i ++ (e :: L.drop (i + 1)) := by
    have h1 := (List.getElem?_eq_some_iff.1 he).2
    conv => lhs; rw [← List.take_append_drop i L]
    rw [List.drop_eq_getElem_cons hlt, h1]
  have hl : (L.take i).length = i := by simp; omega
  constructor
  · intro h
    cases hk : kindOf (L.take i) e.path with
    | none => rfl
    | some c =>
      rw [findv, hL, findFrom_app, if_neg (by rw [hk]; simp)] at h
      rcases findFrom_kind (L.take i) e.path 0 with ⟨h0, _⟩ | ⟨a, e', _, h1, h2, _⟩
      · rw [h0] at hk; cases hk
      · have := (List.getElem?_eq_some_iff.1 h2).1
        rw [h1] at h
        omega
  · intro h
    rw [findv]
    conv => lhs; rw [hL]
    rw [findFrom_app, if_pos h, findFrom, if_pos rfl, hl]
    simp
theorem entAtOk_kind {L : List Ent} {i : Nat} {e : Ent} (he : L[i]? = some e) : entAtOk L i e = (entOkv e && decide (kindOf (L.take i) e.path = none) && (if e.kind = 3 then decide (kindOf (L.take i) e.link = some 0) else true)) := by
  rw [entAtOk, fileAt_kind]
  congr 2
  rw [decide_eq_decide]
  exact find_self he
theorem kindOf_snoc {L : List Ent} {i : Nat} {e : Ent} (he : L[i]? = some e) (hk : kindOf (L.take i) e.path = none) : kindOf (L.take (i + 1)) = putM (kindOf (L.take i)) e.path e.kind := by
  have hlt : i < L.length := (List.getElem?_eq_some_iff.1 he).1
  have h1 := (List.getElem?_eq_some_iff.1 he).2
  funext p
  rw [List.take_succ_eq_append_getElem hlt, h1]
  simp only [kindOf, putM, List.find?_append] at hk ⊢
  by_cases h : p = e.path
  · subst h
    simp at hk
    have : List.find? (fun e' => decide (e'.path = e.path)) (List.take i L) = none := by
      rw [List.find?_eq_none]
      intro x hx
      simpa using hk x hx
    simp [this]
  · have h' : ¬ e.path = p := fun x => h x.symm
    simp [h, h']
theorem kindOf_zero (L : List Ent) : kindOf (L.take 0) = fun _ => none := by
  funext p; simp [kindOf]
theorem entOk_kind (e : Ent) (h : entOkv e = true) : -9223372036854775808 ≤ e.kind ∧ e.kind ≤ 9223372036854775807 := by
  simp only [entOkv, Bool.and_eq_true] at h
  have h2 := h.2
  unfold kindOk at h2
  split at h2
  · omega
  · split at h2
    · omega
    · split at h2
      · omega
      · split at h2
        · omega
        · cases h2
end Go.Proofs.YtgpgkgahbkmdiaaGreatDoor

/- Contract of impl.ListOk. -/
namespace Go.Proofs.YtgpgkgahbkmdiaaGreatDoor
open Go.ChangeShapes Go.WideShapes Go.ChangeAt Go.RowKit Go.Deep Go.Maps

theorem listOk_long {L : List Ent} (h : 30 < L.length) : listOkv L = false := by
  rw [listOkv, decide_eq_false (by omega)]; simp
set_option maxHeartbeats 1600000 in
theorem listOk_impl (L : List Ent) (n g cap : Nat) (w : World) (hn : n = L.length) (hm : n ≤ 4194304) (hg : g < w.heap.size) (hsm : SmallL L) (h1 : RowE w g L) :
    Calls Tryz.prog 23 #[.slice (some ⟨g, 0, none⟩) n cap] w fun e w' => e = .returned (.bool (listOkv L)) ∧ Below w.heap.size w w' := by
  have H1 := Lib.hid h1
  have HG : Hid (∀ i, i < n → ∃ e, L[i]? = some e ∧ esz e ≤ 4194304) := Lib.hid (fun i hi => by obtain ⟨e, he⟩ := getE' (L := L) (i := i) (by omega); exact ⟨e, he, hsm.get he⟩)
  have HBad : Hid (∀ i e, L[i]? = some e → entAtOk L i e = false → listOkv L = false) := Lib.hid (fun i e he hk => listOk_bad he hk)
  have HDone : Hid (OksTo L n → n ≤ 30 → listOkv L = true) := Lib.hid (by rw [hn]; intro h h2; rw [listOk_done h]; simpa using h2)
  have HLong : Hid (30 < n → listOkv L = false) := Lib.hid (by rw [hn]; exact listOk_long)
  generalize listOkv L = r at HBad HDone HLong
  clear h1 hn hsm
  by_cases h30 : 30 < n
  · have h30' : (30 : Int) < (n : Int) := by omega
    have HX := Lib.hid (HLong.out h30)
    go_enter Tryz.func23, Tryz.ntmps23
    go_wp2_with fail
    go_ret
    exact ⟨ret_bool HX.out.symm, Below.refl _ _⟩
  have h30' : ¬ (30 : Int) < (n : Int) := by omega
  have hmm := @run_makeMap Tryz.prog
  go_enter Tryz.func23, Tryz.ntmps23
  go_wp2_with fail
  go_loopw [5, 6, 7, 8, 9, 16] (fun _ _ _ _ _ u wr => ∃ i : Nat, u = .int .i64 i ∧ i ≤ n ∧ OksTo L i ∧ MapAt wr w.heap.size i (kindOf (L.take i)) ∧ Below w.heap.size w wr) (fun _ _ _ _ _ u _ => n - (intOf u).toNat)
  case atStart => exact ⟨0, rfl, Nat.zero_le _, fun j hj => by omega, by rw [kindOf_zero]; exact mapAt_made w, (Below.refl _ _).alloc (Nat.le_refl _) _⟩
  case round =>
    obtain ⟨i, rfl, hi, hr, hmap, hb⟩ := hrel
    have HR := Lib.hid hr
    have B := Lib.hid hb
    have HMp := Lib.hid hmap
    have zm := hmap.lt
    clear hr hb hmap hmm
    by_cases hlt : i < n
    · have hlt2 : (i : Int) < (n : Int) := by omega
      obtain ⟨e, he, hz⟩ := HG.out i hlt
      have R := Lib.hid (H1.out.below B.out hg)
      obtain ⟨c0, c1, c2, c3, c4, c5, c6, c7, c8, c9⟩ := R.out.ten he
      have HBi := Lib.hid (HBad.out i e he)
      have HSi := Lib.hid (fun hk => HR.out.step he hk)
      have HA := Lib.hid (entAtOk_kind he)
      have HK := Lib.hid (fun h => kindOf_snoc he h)
      clear he HBad HG HR
      have hsz := small_parts hz
      generalize kindOf (L.take i) = M at HMp HA HK
      obtain ⟨k, p, l, m, u, g0, t, us, gr, b⟩ := e
      have HO := Lib.hid (fun w => entryOk_impl k p l m u g0 t us gr b w hsz.1 hsz.2.1 hsz.2.2.1 hsz.2.2.2.1)
      dsimp only at hsz
      have kp : p.size ≤ maxLen := by have := hsz.1; simp only [maxLen]; omega
      have kl : l.size ≤ maxLen := by have := hsz.2.1; simp only [maxLen]; omega
      have HKd := Lib.hid (entOk_kind ⟨k, p, l, m, u, g0, t, us, gr, b⟩)
      generalize entAtOk L i ⟨k, p, l, m, u, g0, t, us, gr, b⟩ = ra at HA HBi HSi
      generalize entOkv ⟨k, p, l, m, u, g0, t, us, gr, b⟩ = b1 at HA HO HKd
      dsimp only at HA HK HKd
      clear hsz hz
      have zr : g < wr.heap.size := by have := B.out.size; omega
      obtain ⟨D, ho, hD⟩ := HMp.out
      have OM := Lib.hid ho
      have HD := Lib.hid hD
      clear ho hD HMp
      have HP := Lib.hid (HD.out.2 p).1
      have HLk := Lib.hid (HD.out.2 l)
      cases hp : M p with
      | some x =>
        have hh : Maps.has D (keyS p) = true := by rw [HP.out, hp]; rfl
        have HX : Hid (r = false) := Lib.hid (HBi.out (by rw [HA.out, hp]; simp))
        clear HA HK HP HLk HBi HSi HO HD hp
        go_wp2_with (at_lookup; refine wpList_lookup_own_ok_int _ rfl _ _ 58 rfl 9 3 .i64 lawS Tryz.underlying58 Tryz.underlying3 (zeroN _) w.heap.size i D rfl (OM.out.alloc _) _ _ rfl (key_of kp) ?_; intro c _ _)
        go_ret
        exact ⟨ret_bool HX.out.symm, B.out.alloc B.out.size _⟩
      | none =>
        have hh : Maps.has D (keyS p) = false := by rw [HP.out, hp]; rfl
        have HN := Lib.hid (HK.out hp)
        have HA2 : Hid (ra = (b1 && (if k = 3 then decide (M l = some 0) else true))) := Lib.hid (by rw [HA.out, hp]; simp)
        clear HA HK HP hp
        go_wp2_with (at_lookup; refine wpList_lookup_own_ok_int _ rfl _ _ 58 rfl 9 3 .i64 lawS Tryz.underlying58 Tryz.underlying3 (zeroN _) w.heap.size i D rfl (OM.out.alloc _) _ _ rfl (key_of kp) ?_; intro c _ _)
        refine (HO.out _).mono ?_
        rintro e w1 ⟨rfl, hb⟩
        have O1 := Lib.hid (ownsMap_below (OM.out.alloc _) hb)
        obtain ⟨k1, bb, z1⟩ := one_new (e1 := ⟨k, p, l, m, u, g0, t, us, gr, b⟩) hb
        have E1 := Lib.hid k1
        have B1 := Lib.hid (btE B.out bb)
        clear hb k1 bb c0 c1 c2 c3 c4 c5 c6 c7 c8 c9 R B HO OM hh
        obtain ⟨c0, c1, c2, c3, c4, c5, c6, c7, c8, c9⟩ := E1.out.zero
        have hsz1 := B1.out.size
        cases b1 with
        | false =>
          go_wp2_with fail
          go_ret
          exact ⟨ret_bool (HBi.out (by rw [HA2.out]; simp)).symm, B1.out⟩
        | true =>
          by_cases hk : k = 3
          · subst hk
            cases hl : M l with
            | none =>
              have hh : Maps.has D (keyS l) = false := by rw [HLk.out.1, hl]; rfl
              have HX : Hid (r = false) := Lib.hid (HBi.out (by rw [HA2.out, hl]; simp))
              clear HA2 HBi HSi HLk hl HN
              go_wp2_with (at_lookup; refine wpList_lookup_own_ok_int _ rfl _ _ 58 rfl 9 3 .i64 lawS Tryz.underlying58 Tryz.underlying3 (zeroN _) w.heap.size i D rfl O1.out _ _ rfl (key_of kl) ?_; intro c' _ _)
              go_ret
              exact ⟨ret_bool HX.out.symm, B1.out⟩
            | some x =>
              have hh : Maps.has D (keyS l) = true := by rw [HLk.out.1, hl]; rfl
              have HT := Lib.hid (HLk.out.2 x hl)
              by_cases hx : x = 0
              · subst hx
                have HS := Lib.hid (HSi.out (by rw [HA2.out, hl]; simp))
                clear HA2 HBi HSi HLk hl
                go_wp2_with (first | (at_lookup; refine wpList_lookup_own_ok_int _ rfl _ _ 58 rfl 9 3 .i64 lawS Tryz.underlying58 Tryz.underlying3 (zeroN _) w.heap.size i D rfl O1.out _ _ rfl (key_of kl) ?_; intro c' hat _; obtain rfl : c' = 0 := (by have := hat.symm.trans HT.out; simpa using this); clear hat) | (at_mapUpdate; refine wpList_mapUpdate_own _ rfl _ _ _ 58 rfl 9 3 lawS Tryz.underlying58 _ w.heap.size i D rfl O1.out (by simp only [maxLen]; omega) _ _ _ rfl rfl (key_of kp) _ [] (plainElem_int Tryz.underlying3 (by decide)) ?_; intro w2 hown2 hgrow2))
                have HM2 : Hid (MapAt w2 w.heap.size (i + 1) (kindOf (L.take (i + 1)))) := Lib.hid (by rw [HN.out]; exact ⟨_, hown2, HD.out.put p 3⟩)
                have B2 : Hid (Below w.heap.size w w2) := Lib.hid (B1.out.grown hgrow2 hsz1 (fun b hb => by cases hb; exact Nat.le_refl _))
                clear hown2 hgrow2 HN HT hh
                go_wp2_with fail
                go_roundw
                case rel => exact ⟨i + 1, by go_num, by omega, HS.out, HM2.out, B2.out⟩
                case measure => simp [intOf]; omega
              · have HX : Hid (r = false) := Lib.hid (HBi.out (by rw [HA2.out, hl]; simp [hx]))
                have hx2 : (x != 0) = true := by simpa using hx
                clear HA2 HBi HSi HLk hl HN hx
                go_wp2_with (at_lookup; refine wpList_lookup_own_ok_int _ rfl _ _ 58 rfl 9 3 .i64 lawS Tryz.underlying58 Tryz.underlying3 (zeroN _) w.heap.size i D rfl O1.out _ _ rfl (key_of kl) ?_; intro c' hat _; obtain rfl : c' = x := (by have := hat.symm.trans HT.out; simpa using this); clear hat)
                go_ret
                exact ⟨ret_bool HX.out.symm, B1.out⟩
          · have HS := Lib.hid (HSi.out (by rw [HA2.out]; simp [hk]))
            have hk2 : (k == 3) = false := by simpa using hk
            have hk3 : decide (k = 3) = false := by simpa using hk
            have hwk : (Lit.int .i64 k).wf = true := WalkArith.wf_i64 (HKd.out rfl)
            clear HA2 HBi HSi HLk hk
            go_wp2_with (first | (at_lookup; refine wpList_lookup_own_ok_int _ rfl _ _ 58 rfl 9 3 .i64 lawS Tryz.underlying58 Tryz.underlying3 (zeroN _) w.heap.size i D rfl O1.out _ _ rfl (key_of kl) ?_; intro c' _ _) | (at_mapUpdate; refine wpList_mapUpdate_own _ rfl _ _ _ 58 rfl 9 3 lawS Tryz.underlying58 _ w.heap.size i D rfl O1.out (by simp only [maxLen]; omega) _ _ _ rfl rfl (key_of kp) _ [] (plainElem_int Tryz.underlying3 hwk) ?_; intro w2 hown2 hgrow2))
            have HM2 : Hid (MapAt w2 w.heap.size (i + 1) (kindOf (L.take (i + 1)))) := Lib.hid (by rw [HN.out]; exact ⟨_, hown2, HD.out.put p k⟩)
            have B2 : Hid (Below w.heap.size w w2) := Lib.hid (B1.out.grown hgrow2 hsz1 (fun b hb => by cases hb; exact Nat.le_refl _))
            clear hown2 hgrow2 HN
            go_wp2_with fail
            go_roundw
            case rel => exact ⟨i + 1, by go_num, by omega, HS.out, HM2.out, B2.out⟩
            case measure => simp [intOf]; omega
    · obtain rfl : i = n := by omega
      have hlt2 : ¬ (i : Int) < (i : Int) := by omega
      have HFin := Lib.hid (HDone.out HR.out (by omega))
      go_wp2_with fail
      go_ret
      exact ⟨ret_bool HFin.out.symm, B.out⟩
end Go.Proofs.YtgpgkgahbkmdiaaGreatDoor

/- Bytes of the call's own that came of a string's conversion (such a row bears a mark behind its last cell), and appends of strings to them. -/
namespace Go.Proofs.YtgpgkgahbkmdiaaGreatDoor
open Go.ChangeShapes Go.WideShapes Go.ChangeAt Go.RowKit Go.Deep

variable {P : Program}
/-- Cells written ahead of a mark that lies behind the row's last cell. -/
theorem storeCells_mark (g : Nat) (t : TypeId) (hi : Nat) : ∀ (vs : List Value) (o i : Nat) (cur : Array Value) (w : World), w.heap[g]? = some (.cells cur t (cur.size, hi)) → o + i + vs.length ≤ cur.size → (∀ v ∈ vs, v.oneCell' = true) →
    (storeCells ⟨g, o, none⟩ vs i).run P w = .ok () (w.setRow g (cur.toList.take (o + i) ++ vs ++ cur.toList.drop (o + i + vs.length)).toArray) := by
  intro vs
  induction vs with
  | nil =>
    intro o i cur w hg _ _
    have e : (cur.toList.take (o + i) ++ [] ++ cur.toList.drop (o + i + ([] : List Value).length)).toArray = cur := by simp
    rw [e, setRow_self w g cur t (cur.size, hi) hg]
    rfl
  | cons v rest ih =>
    intro o i cur w hg hl h1
    have hlt : o + i < cur.size := by simp at hl; omega
    have hadd : (⟨g, o, none⟩ : Addr).add i = ⟨g, o + i, none⟩ := by unfold Addr.add; split <;> simp_all
    have hcell : w.cell? ⟨g, o + i, none⟩ = some cur[o + i] := by simp [World.cell?, hg, hlt]
    have hfro : w.frozen? ⟨g, o + i, none⟩ = false := by
      simp only [World.frozen?, hg, Bool.and_eq_false_iff, decide_eq_false_iff_not]
      left
      omega
    have hst : (store ((⟨g, o, none⟩ : Addr).add i) v).run P w = .ok () (w.setRow g (cur.setIfInBounds (o + i) v)) := by
      rw [hadd, run_store P w _ v _ (h1 v (by simp)), hcell]
      simp [hfro, setCell_eq_setRow w g (o + i) cur t (cur.size, hi) v hg]
    have hg2 := setRow_heap w g cur (cur.setIfInBounds (o + i) v) t (cur.size, hi) hg
    have hsz : (cur.setIfInBounds (o + i) v).size = cur.size := by simp
    have h := ih o (i + 1) (cur.setIfInBounds (o + i) v) (w.setRow g (cur.setIfInBounds (o + i) v)) (by rw [hsz]; exact hg2) (by simp at hl ⊢; omega) (fun x hx => h1 x (by simp [hx]))
    simp only [storeCells, Sem.run_bind, hst, Result.andThen_ok, h, setRow_setRow]
    congr 3
    have e := list_seg_step cur.toList (o + i) v rest (by simp at hl ⊢; omega)
    simpa [Array.toList_setIfInBounds, Nat.add_assoc] using e
/-- A row of bytes of the call's own, perhaps with such a mark. -/
def OwnM (w : World) (base : Nat) (v : Value) (l : List UInt8) : Prop :=
  OwnB w base v l ∨ ∃ g cap cur hi, v = .slice (some ⟨g, 0, none⟩) l.length cap ∧ base ≤ g ∧ w.heap[g]? = some (.cells cur 5 (cur.size, hi)) ∧ l.length ≤ cap ∧ cap ≤ maxLen ∧ cur.size = cap ∧ cur.toList.take l.length = byteVals l
theorem OwnM.of_string {w : World} {base : Nat} (s : ByteArray) (hb : base ≤ w.heap.size) (hs : s.size ≤ maxLen) :
    OwnM (Lib.bytesWorld w 5 s) base (.slice (some ⟨w.heap.size, 0, none⟩) s.size (grownCap w s.size 0 5)) s.data.toList := by
  have hge := grownCap_ge w s.size 0 5
  have hle := grownCap_le_maxLen w s.size 0 5 hs
  have hl : s.data.toList.length = s.size := by simp
  refine .inr ⟨w.heap.size, _, Lib.bytesCells w 5 s, _, by rw [hl], hb, Lib.bytesWorld_at_new _ _ _, by rw [hl]; exact hge, hle, ?_, ?_⟩
  · have : s.data.size = s.size := rfl
    simp [Lib.bytesCells]
    omega
  · have : s.data.size = s.size := rfl
    rw [hl]
    simp only [Lib.bytesCells, Array.toList_append, Array.toList_map, byteVals]
    rw [List.take_left' (by simp)]
theorem OwnM.lt {w : World} {base : Nat} {v : Value} {l : List UInt8} (h : OwnM w base v l) : ∀ k, v.ownBlock = some k → base ≤ k ∧ k < w.heap.size := by
  intro k hk
  rcases h with h | ⟨g, cap, cur, hi, rfl, hb, hg, _⟩
  · exact World.ownsRow.lt h k hk
  · simp [Value.ownBlock] at hk
    subst hk
    exact ⟨hb, (Array.getElem?_eq_some_iff.1 hg).1⟩
theorem OwnM.below {w w' : World} {base : Nat} {v : Value} {l : List UInt8} (h : OwnM w base v l) (hb : Below w.heap.size w w') : OwnM w' base v l := by
  rcases h with h | ⟨g, cap, cur, hi, hv, hbg, hg, rest⟩
  · exact .inl (ownB_belowU h hb)
  · exact .inr ⟨g, cap, cur, hi, hv, hbg, by rw [hb.block g (Array.getElem?_eq_some_iff.1 hg).1]; exact hg, rest⟩
theorem OwnM.cells {w : World} {base : Nat} {v : Value} {l : List UInt8} (h : OwnM w base v l) {g : Nat} (hv : v.ownBlock = some g) : ∀ j u, (byteVals l)[j]? = some u → w.cell? ((⟨g, 0, none⟩ : Addr).add j) = some u := by
  rcases h with h | ⟨g', cap, cur, hi, rfl, _, hg, _, _, _, ht⟩
  · exact World.ownsRow.cells h hv
  · intro j u hu
    simp [Value.ownBlock] at hv
    subst hv
    have hadd : (⟨g', 0, none⟩ : Addr).add j = ⟨g', j, none⟩ := by unfold Addr.add; split <;> simp_all
    rw [hadd, cell_of_row w g' j cur _ _ hg]
    rw [← ht, List.getElem?_take] at hu
    split at hu
    · simpa using hu
    · cases hu
theorem OwnM.conv {w : World} {base : Nat} {v : Value} {l : List UInt8} (h : OwnM w base v l) :
    (convert 40 9 v).run Tryz.prog w = .ok (.string ⟨l.toArray⟩) w := by
  rcases h with h | ⟨g, cap, cur, hi, rfl, hr⟩
  · exact h.conv
  · have hh : OwnM w base (.slice (some ⟨g, 0, none⟩) l.length cap) l := .inr ⟨g, cap, cur, hi, rfl, hr⟩
    refine run_convert_bytes_back (P := Tryz.prog) w 40 9 5 ⟨g, 0, none⟩ cap l Tryz.underlying40 Tryz.underlying5 Tryz.underlying9 ?_
    intro j hj
    exact hh.cells rfl j _ (by simp [byteVals, List.getElem?_eq_getElem hj])
theorem ownM_ne {w : World} {base g : Nat} {v : Value} {l : List UInt8} {c : Array Value} {t : TypeId} {fr : Nat × Nat} (ho : OwnM w base v l) (hg : w.heap[g]? = some (.cells c t fr)) (hne : t ≠ 5) : some g ≠ v.ownBlock := by
  rcases ho with ho | ⟨g', cap, cur, hi, rfl, _, hc, _⟩
  · exact own_ne ho hg hne
  · simp only [Value.ownBlock]
    intro h
    obtain rfl : g = g' := Option.some.inj h
    rw [hg] at hc
    simp only [Option.some.injEq, Obj.cells.injEq] at hc
    exact hne hc.2.1
theorem boxKM {w w' : World} {g base : Nat} {e : Ent} {v : Value} {l : List UInt8} (ho : OwnM w base v l) (h : EntO w g e) (hgrow : w.grownBy w' v.ownBlock) : EntO w' g e :=
  h.grown hgrow (ownM_ne ho h (by decide))
set_option maxHeartbeats 1600000 in
theorem run_append_ownM (w : World) (base : Nat) (v : Value) (l : List UInt8) (s : ByteArray) (ty : TypeId) (i : TypeInfo) (hi : Tryz.prog.info? 5 = some i) (hz : i.zero = some (.int .u8 0)) (hsize : i.size = 1) (hby : i.bytes = 1)
    (hown : OwnM w base v l) (h63 : l.length + s.size ≤ 1048576) (hbase : base ≤ w.heap.size) :
    ∃ v' w', (Builtin.append_ #[40, 9] ty #[v, .string s]).run Tryz.prog w = .ok v' w' ∧ OwnM w' base v' (l ++ s.data.toList) ∧ w.grownBy w' v.ownBlock := by
  have hmx : l.length + s.size ≤ maxLen := by simp only [maxLen]; omega
  rcases hown with h | ⟨g, cap, cur, hi', rfl, hbg, hg, hlc, hcm, hcs, ht⟩
  · obtain ⟨v', w', h1, h2, h3, _⟩ := Lib.run_append_own_string (P := Tryz.prog) w base 40 9 ty 5 i Tryz.underlying40 Tryz.underlying9 hi hz hsize hby v l.length (byteVals l) h s hmx (by omega) hbase
    exact ⟨v', w', h1, .inl (OwnB.textU rfl h2), h3⟩
  · have hsl : (Lib.strCells s).length = s.size := Lib.strCells_length s
    have hbv : byteVals l ++ Lib.strCells s = byteVals (l ++ s.data.toList) := by simp [byteVals, Lib.strCells]
    have hln : (l ++ s.data.toList).length = l.length + s.size := by simp
    by_cases hroom : l.length + s.size ≤ cap
    · have hf := Lib.run_firstCells_string (P := Tryz.prog) w 1 s
      have hst := storeCells_mark (P := Tryz.prog) g 5 hi' (Lib.strCells s) l.length 0 cur w hg (by rw [hsl]; omega) (Lib.strCells_oneCell s)
      simp only [Nat.add_zero, hsl] at hst
      have hr : (Builtin.append_ #[40, 9] ty #[.slice (some ⟨g, 0, none⟩) l.length cap, .string s]).run Tryz.prog w =
          .ok (.slice (some ⟨g, 0, none⟩) (l.length + s.size) cap) (w.setRow g (cur.toList.take l.length ++ Lib.strCells s ++ cur.toList.drop (l.length + s.size)).toArray) := by
        simp [Builtin.append_, run_underlying Tryz.underlying40, run_underlying Tryz.underlying9, sizeOf, typeInfo, hi, hsize, Builtin.lenOf, hroom, hf, Addr.add_lit, hst]
      have hsz : (cur.toList.take l.length ++ Lib.strCells s ++ cur.toList.drop (l.length + s.size)).toArray.size = cur.size := by
        simp only [List.size_toArray, List.length_append, List.length_take, List.length_drop, Array.length_toList, hsl]
        omega
      refine ⟨_, _, hr, .inr ⟨g, cap, _, hi', by rw [hln], hbg, by rw [hsz]; exact setRow_heap w g cur _ _ (cur.size, hi') hg, by rw [hln]; exact hroom, hcm, by rw [hsz, hcs], ?_⟩, ⟨rfl, rfl, rfl, by simp, fun k _ hk => setRow_other w g k _ (fun e => hk (by simp [Value.ownBlock, e]))⟩⟩
      rw [ht, hln, ← hbv]
      have hbl : (byteVals l ++ Lib.strCells s).length = l.length + s.size := by rw [List.length_append, byteVals_length, hsl]
      show ((byteVals l ++ Lib.strCells s ++ cur.toList.drop (l.length + s.size)).take (l.length + s.size)) = _
      rw [← hbl]
      exact List.take_left
    · have holds : ∀ j u, (byteVals l)[j]? = some u → w.cell? ((⟨g, 0, none⟩ : Addr).add j) = some u :=
        OwnM.cells (.inr ⟨g, cap, cur, hi', rfl, hbg, hg, hlc, hcm, hcs, ht⟩) rfl
      have hr := Lib.run_append_grow_string (P := Tryz.prog) w 40 9 ty 5 i (.int .u8 0) Tryz.underlying40 Tryz.underlying9 hi hz ⟨g, 0, none⟩ l.length cap (byteVals l) (by rw [hsize, byteVals_length]; omega) holds s (by omega) (by omega) (by rw [hby]; exact growslice_fits (by omega) (by omega))
      have hge := grownCap_ge w (l.length + s.size) cap 5
      have hcm2 : grownCap w (l.length + s.size) cap 5 ≤ maxLen := grownCap_le_maxLen w (l.length + s.size) cap 5 hmx
      refine ⟨_, _, hr, .inl ?_, ⟨rfl, rfl, rfl, by simp, fun k hk _ => ((Below.refl w.drew.heap.size w.drew).alloc (Nat.le_refl _) _).block k hk⟩⟩
      refine OwnB.textU rfl ?_
      refine ⟨by rw [List.length_append, byteVals_length, hsl, Nat.mul_one], .inr ⟨w.heap.size, _, _, rfl, hbase, heap_alloc_new w.drew _, hge, hcm2, ?_, ?_⟩⟩
      · have hz1 : (Value.int IntKind.u8 0).cells.size = 1 := rfl
        simp only [Array.size_append, List.size_toArray, size_zeroCells, hz1, byteVals_length, hsl]
        omega
      · simp only [Array.toList_append, List.append_assoc]
        rw [← List.append_assoc]
        have hbl : (l.length + s.size) * 1 = (byteVals l ++ Lib.strCells s).length := by rw [List.length_append, byteVals_length, hsl, Nat.mul_one]
        rw [hbl]
        exact List.take_left
theorem wpList_append_ownM {ops : Array Oper} {rest : List Oper} {o : Oper} {a : Act} {w : World} {Q : Exit → Act → World → Prop} (hgd : o.guard = none) (sl x : Operand)
    (ho : o.op = .call { callee := .builtin .append, args := #[sl, x], argTypes := #[40, 9] }) (base : Nat) (i : TypeInfo) (hi : Tryz.prog.info? 5 = some i) (hz : i.zero = some (.int .u8 0)) (hsize : i.size = 1) (hby : i.bytes = 1)
    (v : Value) (l : List UInt8) (hs : a.eval sl = v) (hown : OwnM w base v l) (s : ByteArray) (hx : a.eval x = .string s) (h63 : l.length + s.size ≤ 1048576) (hbase : base ≤ w.heap.size)
    (h : ∀ v' w', OwnM w' base v' (l ++ s.data.toList) → w.grownBy w' v.ownBlock → wpList Tryz.prog ops Q rest (a.put o.dst v') w') : wpList Tryz.prog ops Q (o :: rest) a w := by
  refine wpList_plain hgd fun K hK => ?_
  obtain ⟨v', w', hr, h2, h3⟩ := run_append_ownM w base v l s o.type i hi hz hsize hby hown h63 hbase
  unfold Oper.wp execOp
  simp only [ho, resolve, invoke, builtin, Sem.run_bind, Sem.run_pure, Result.andThen_ok, List.map_toArray, List.map_cons, List.map_nil, hs, hx, hr]
  exact hK _ _ (h v' w' h2 h3)
end Go.Proofs.YtgpgkgahbkmdiaaGreatDoor
