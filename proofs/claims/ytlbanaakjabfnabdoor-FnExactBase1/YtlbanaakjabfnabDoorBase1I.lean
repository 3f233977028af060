/- Contract of impl.Base1. -/
import Derived.Test.YtlbanaakjabfnabDoorBase1S
import Derived.Test.YtlbanaakjabfnabDoorCopyE
import Derived.Test.YtlbanaakjabfnabDoorEntOkI
import Derived.Test.YtlbanaakjabfnabDoorRegTail
import Derived.Deep.CutBlock
namespace Go.Proofs.YtlbanaakjabfnabDoor
open Go.ChangeShapes Go.WideShapes Go.ChangeAt Go.RowKit Go.Deep

/-- What the walk keeps: the records so far, the entry as it is (in the argument's box), the result's box. -/
def I1 (w wx : World) (v : Value) (L : List Rec) (x : Ent) : Prop :=
  OwnR wx w.heap.size v L ∧ EntO wx w.heap.size x ∧ EntO wx (w.heap.size + 1) ⟨0, ⟨#[]⟩, ⟨#[]⟩, 0, 0, 0, 0, ⟨#[]⟩, ⟨#[]⟩, ⟨#[]⟩⟩ ∧ Below w.heap.size w wx
theorem I1.below {w wx wy : World} {v : Value} {L : List Rec} {x : Ent} (h : I1 w wx v L x) (hb : Below wx.heap.size wx wy) : I1 w wy v L x := by
  obtain ⟨o, a, c, d⟩ := h
  exact ⟨o.keep hb, a.below hb a.lt, c.below hb c.lt, btE d hb⟩
theorem I1.app {w wx w6 : World} {v v' : Value} {L : List Rec} {x : Ent} {r : Rec} {t : TypeId} (h : I1 w wx v L x) (hown : w6.ownsRow w.heap.size 44 2 v' (L.length + 1) (valsR L ++ valsR [r])) (hgrow : (wx.alloc (.cells r.cells.toArray t)).grownBy w6 v.ownBlock) (hnil : ¬ v' = .slice none 0 0) : I1 w w6 v' (L ++ [r]) x := by
  obtain ⟨o, a, c, d⟩ := h
  have hb : Below wx.heap.size wx (wx.alloc (.cells r.cells.toArray t)) := (Below.refl _ _).alloc (Nat.le_refl _) _
  refine ⟨own_appR hown rfl rfl hnil, (a.below hb a.lt).grown hgrow (own_neE o.1 a), (c.below hb c.lt).grown hgrow (own_neE o.1 c), ?_⟩
  exact (d.alloc d.size _).grown hgrow (by have := d.size; simp; omega) (fun b hb => (World.ownsRow.lt o.1 b hb).1)
theorem I1.store {w wx : World} {v : Value} {L : List Rec} {x x' : Ent} (h : I1 w wx v L x) (i : Nat) (y : Value) (hx : x.cells.toArray.setIfInBounds i y = x'.cells.toArray) : I1 w (wx.setCell ⟨w.heap.size, i, none⟩ y) v L x' := by
  obtain ⟨o, a, c, d⟩ := h
  have hne := own_neE o.1 a
  obtain ⟨ho, gl, cap, rfl⟩ := o
  exact ⟨OwnR.kept ⟨ho, gl, cap, rfl⟩ (grown_setO (grown_reflO wx (some w.heap.size)) i y) (fun e => hne (by rw [← e]; rfl)), a.set i y hx, c.other (by omega), d.setCell (p := ⟨w.heap.size, i, none⟩) (Nat.le_refl _) _⟩
theorem I1.ok {w wx : World} {v : Value} {L : List Rec} {x : Ent} (h : I1 w wx v L x) : OwnR wx w.heap.size v L ∧ EntAt wx w.heap.size 0 x ∧ (∀ i, wx.frozen? ⟨w.heap.size, i, none⟩ = false) ∧ w.heap.size < wx.heap.size := ⟨h.1, h.2.1.at, h.2.1.fz, h.2.1.lt⟩
theorem own_neT {w : World} {base n g : Nat} {v : Value} {xs : List Value} {c : Array Value} {t : TypeId} {fr : Nat × Nat} (ho : w.ownsRow base 44 2 v n xs) (hg : w.heap[g]? = some (.cells c t fr)) (hne : t ≠ 44) : some g ≠ v.ownBlock := by
  rcases ho.2 with ⟨rfl, _⟩ | ⟨g', cap, cur, rfl, _, hc, _⟩
  · simp [Value.ownBlock]
  · simp only [Value.ownBlock]
    intro h
    obtain rfl : g = g' := Option.some.inj h
    rw [hg] at hc
    simp only [Option.some.injEq, Obj.cells.injEq] at hc
    exact hne hc.2.1
theorem rowN {w : World} {G : Nat} {cs : Array Value} {t : TypeId} {fr : Nat × Nat} (h : w.heap[G]? = some (.cells cs t fr)) : ∀ j u, cs.toList[j]? = some u → w.cell? ((⟨G, 0, none⟩ : Addr).add j) = some u := by
  intro j u hu
  rw [show (⟨G, 0, none⟩ : Addr).add j = ⟨G, j, none⟩ from by unfold Addr.add; split <;> simp_all]
  simpa [World.cell?, h] using hu
theorem I1.app2 {w wx w6 : World} {v v' : Value} {L : List Rec} {x : Ent} {r : Rec} (h : I1 w wx v L x) (hown : w6.ownsRow w.heap.size 44 2 v' (L.length + 1) (valsR L ++ valsR [r])) (hgrow : wx.grownBy w6 v.ownBlock) (hnil : ¬ v' = .slice none 0 0) : I1 w w6 v' (L ++ [r]) x := by
  obtain ⟨o, a, c, d⟩ := h
  exact ⟨own_appR hown rfl rfl hnil, a.grown hgrow (own_neE o.1 a), c.grown hgrow (own_neE o.1 c), d.grown hgrow d.size (fun b hb => (World.ownsRow.lt o.1 b hb).1)⟩
def vSl (B : Nat) (cs : Array Value) (V : Nat → Value → Prop) (d : Nat) (v : Value) (w : World) : Prop := if d = 90 then ∃ G, v = .slice (some ⟨G, 0, none⟩) 1 1 ∧ B ≤ G ∧ w.heap[G]? = some (.cells cs 44 (0, 0)) else V d v
theorem vSl_keep {C : World → Prop} (B : Nat) (cs : Array Value) (V : Nat → Value → Prop) : ∀ d v x y, C x → Below x.heap.size x y → vSl B cs V d v x → vSl B cs V d v y := by
  intro d v x y _ hb h
  unfold vSl at h ⊢
  split at h
  · rename_i hd
    rw [if_pos hd]
    obtain ⟨G, h1, h2, h3⟩ := h
    exact ⟨G, h1, h2, (hb.block G (Array.getElem?_eq_some_iff.1 h3).1).trans h3⟩
  · rename_i hd
    rw [if_neg hd]; exact h
theorem heap_alloc_lastN (w : World) (o : Obj) : (w.alloc o).heap[w.heap.size]? = some o := by
  show (w.heap.push o)[w.heap.size]? = _
  simp
set_option maxHeartbeats 6400000 in
set_option maxRecDepth 8000 in
theorem base1_impl (k : Int) (p l : ByteArray) (m u g t : Int) (us gr b : ByteArray) (w : World) (hp : p.size ≤ 4194304) (hl : l.size ≤ 4194304) (hus : us.size ≤ 4194304) (hgr : gr.size ≤ 4194304) (hbz : b.size ≤ 4194304) (hu0 : -9223372036854775808 ≤ u) (hu1 : u ≤ 9223372036854775807) (hg0 : -9223372036854775808 ≤ g) (hg1 : g ≤ 9223372036854775807) (ht0 : -9223372036854775808 ≤ t) (ht1 : t ≤ 9223372036854775807) (ht : Lib.TabIs Tryd.prog w "internal/strconv.uint64pow10" .u64 Lib.pow10Tab) :
    Calls Tryd.prog 8 #[.agg #[.int .i64 k, .string p, .string l, .int .i64 m, .int .i64 u, .int .i64 g, .int .i64 t, .string us, .string gr, .string b]] w fun e w' => (∃ v, e = .returned (.tuple #[.agg (base1E ⟨k, p, l, m, u, g, t, us, gr, b⟩).cells.toArray, v]) ∧ OwnR w' w.heap.size v (base1L ⟨k, p, l, m, u, g, t, us, gr, b⟩)) ∧ Below w.heap.size w w' := by
  obtain ⟨i0, hi0, hz0, hz1, hz2⟩ := info_parts Tryd.infoR
  have HT := Lib.hid ht
  have H1 := Lib.hid (fun w => entryOk_impl k p l m u g t us gr b w hp hl hus hgr)
  have HC := Lib.hid (fun w => copyEntry_impl k p l m u g t us gr b w hp hl hus hgr hbz)
  have H2 := Lib.hid (fun w => split_impl p w hp)
  have H3 := Lib.hid (fun w => base_impl p w (by omega))
  have HE : Hid (base1E ⟨k, p, l, m, u, g, t, us, gr, b⟩ = if entOkv ⟨k, p, l, m, u, g, t, us, gr, b⟩ then ⟨k, b1p p, b2l k (b1p p) l, m, bn 2097151 u, bn 2097151 g, bn 8589934591 t, us, gr, b⟩ else ⟨0, ⟨#[]⟩, ⟨#[]⟩, 0, 0, 0, 0, ⟨#[]⟩, ⟨#[]⟩, ⟨#[]⟩⟩) := Lib.hid rfl
  have HL : Hid (base1L ⟨k, p, l, m, u, g, t, us, gr, b⟩ = if entOkv ⟨k, p, l, m, u, g, t, us, gr, b⟩ then bnL kTime 8589934591 t (bnL kGid 2097151 g (bnL kUid 2097151 u (b2L k (b1p p) l (b1L p)))) else []) := Lib.hid rfl
  generalize base1E ⟨k, p, l, m, u, g, t, us, gr, b⟩ = rE at HE
  generalize base1L ⟨k, p, l, m, u, g, t, us, gr, b⟩ = rL at HL
  generalize entOkv ⟨k, p, l, m, u, g, t, us, gr, b⟩ = ok at H1 HE HL
  clear ht
  go_enter Tryd.func8, Tryd.ntmps8
  go_wp2_with fail
  refine (H1.out _).mono ?_
  rintro e w1 ⟨rfl, hb⟩
  obtain ⟨e1, e2, e3, e4, e5⟩ := three_new (e := ⟨k, p, l, m, u, g, t, us, gr, b⟩) (z := ⟨0, ⟨#[]⟩, ⟨#[]⟩, 0, 0, 0, 0, ⟨#[]⟩, ⟨#[]⟩, ⟨#[]⟩⟩) hb
  have EO := Lib.hid e1
  have RO := Lib.hid e2
  have OL := Lib.hid e3
  have B := Lib.hid e4
  clear hb e1 e2 e3 e4
  obtain ⟨c0, c1, c2, c3, c4, c5, c6, c7, c8, c9⟩ := EO.out.at.zero
  cases ok with
  | false =>
    obtain ⟨d0, d1, d2, d3, d4, d5, d6, d7, d8, d9⟩ := RO.out.at.zero
    have f0 := RO.out.fz 0
    have f1 := RO.out.fz 1
    have f2 := RO.out.fz 2
    have f3 := RO.out.fz 3
    have f4 := RO.out.fz 4
    have f5 := RO.out.fz 5
    have f6 := RO.out.fz 6
    have f7 := RO.out.fz 7
    have f8 := RO.out.fz 8
    have f9 := RO.out.fz 9
    go_wp2_with fail
    have RP := RO.out.put ⟨0, ⟨#[]⟩, ⟨#[]⟩, 0, 0, 0, 0, ⟨#[]⟩, ⟨#[]⟩, ⟨#[]⟩⟩
    have BP := below_putE (g := w.heap.size + 1) B.out (by omega) ⟨0, ⟨#[]⟩, ⟨#[]⟩, 0, 0, 0, 0, ⟨#[]⟩, ⟨#[]⟩, ⟨#[]⟩⟩
    have OP := OwnR.kept (w' := putE w1 (w.heap.size + 1) ⟨0, ⟨#[]⟩, ⟨#[]⟩, 0, 0, 0, 0, ⟨#[]⟩, ⟨#[]⟩, ⟨#[]⟩⟩) OL.out (row := some (w.heap.size + 1)) (grown_putE w1 _ _) (fun e => by have := Option.some.inj e; omega)
    simp only [putE] at RP BP OP
    refine bodyPost_ret (res_ent2 rfl _ rfl RP) rfl ?_
    exact ⟨⟨_, by rw [HE.out]; rfl, by rw [HL.out]; exact OP⟩, BP⟩
  | true =>
    go_wp2_with fail
    refine (HC.out _).mono ?_
    rintro e w2 ⟨rfl, hb⟩
    replace EO := Lib.hid (EO.out.below hb EO.out.lt)
    replace RO := Lib.hid (RO.out.below hb RO.out.lt)
    replace OL := Lib.hid (OL.out.keep hb)
    replace B := Lib.hid (btE B.out hb)
    clear hb c0 c1 c2 c3 c4 c5 c6 c7 c8 c9
    obtain ⟨c0, c1, c2, c3, c4, c5, c6, c7, c8, c9⟩ := EO.out.at.zero
    have f0 := EO.out.fz 0
    have f1 := EO.out.fz 1
    have f2 := EO.out.fz 2
    have f3 := EO.out.fz 3
    have f4 := EO.out.fz 4
    have f5 := EO.out.fz 5
    have f6 := EO.out.fz 6
    have f7 := EO.out.fz 7
    have f8 := EO.out.fz 8
    have f9 := EO.out.fz 9
    have EP := EO.out.put ⟨k, p, l, m, u, g, t, us, gr, b⟩
    have RP : EntO (putE w2 w.heap.size ⟨k, p, l, m, u, g, t, us, gr, b⟩) (w.heap.size + 1) ⟨0, ⟨#[]⟩, ⟨#[]⟩, 0, 0, 0, 0, ⟨#[]⟩, ⟨#[]⟩, ⟨#[]⟩⟩ := (putE_other (by omega)).trans RO.out
    have BP := below_putE (g := w.heap.size) B.out (Nat.le_refl _) ⟨k, p, l, m, u, g, t, us, gr, b⟩
    have OP := OwnR.kept (w' := putE w2 w.heap.size ⟨k, p, l, m, u, g, t, us, gr, b⟩) OL.out (row := some w.heap.size) (grown_putE w2 _ _) (fun e => by have := Option.some.inj e; omega)
    simp only [putE] at EP RP BP OP
    have ST := Lib.hid (show I1 w _ _ [] ⟨k, p, l, m, u, g, t, us, gr, b⟩ from ⟨OP, EP, RP, BP⟩)
    clear EP RP BP OP
    go_wp2_with fail
    refine (H2.out _).mono ?_
    rintro e w3 ⟨rfl, hb⟩
    replace ST := Lib.hid (ST.out.below hb)
    clear hb EO RO OL B c0 c1 c2 c3 c4 c5 c6 c7 c8 c9 f0 f1 f2 f3 f4 f5 f6 f7 f8 f9 H1 HC e5
    have HB1 : Hid (b1p p = if splitOk p then p else basev p) := Lib.hid rfl
    have HB2 : Hid (b1L p = if splitOk p then [] else [⟨kPath, p⟩]) := Lib.hid rfl
    have hl1 := b1L_len p
    generalize splitOk p = so at HB1 HB2 ⊢
    generalize b1p p = p1 at HB1 HE HL ⊢
    generalize b1L p = L1 at HB2 HL hl1 ⊢
    go_upto_if 27 with fail
    go_cut [4] (fun v wx => I1 w wx v L1 ⟨k, p1, l, m, u, g, t, us, gr, b⟩)
    case first =>
      cases so with
      | true =>
        go_wp2_with fail
        go_meet
        case rel => rw [show p1 = p from HB1.out, show L1 = [] from HB2.out]; exact ST.out
      | false =>
        have hL1 : L1 = [⟨kPath, p⟩] := HB2.out
        have hp1 : p1 = basev p := HB1.out
        rw [← hp1] at H3
        subst hL1
        clear HB1 HB2 HE HL hp1
        obtain ⟨ol, xa, xf, ze1⟩ := ST.out.ok
        have OW := Lib.hid ol.1
        obtain ⟨d0, d1, d2, d3, d4, d5, d6, d7, d8, d9⟩ := xa.zero
        have f1 := xf 1
        have f2 := xf 2
        have f4 := xf 4
        have f5 := xf 5
        have f6 := xf 6
        have zB := ST.out.2.2.2.size
        clear ol xa xf
        go_wp2_with (at_builtin; refine wpList_append_own _ rfl _ _ 26 rfl w.heap.size 44 i0 (.agg #[.string ⟨#[]⟩, .string ⟨#[]⟩]) 2 32 Tryd.underlying26 hi0 hz0 hz1 hz2 rfl (by decide) _ ([] : List Rec).length (valsR ([] : List Rec)) rfl ?c0q1 ⟨w3.heap.size, 0, none⟩ 1 1 (valsR [(⟨kPath, p⟩ : Rec)]) rfl (valsR_len _) ?c1q1 ?c2q1 ?c3q1 ?c4q1 ?c5q1 ?_)
        case c0q1 => exact World.ownsRow.alloc OW.out _
        case c1q1 => intro jj uu hu; rw [valsR_one] at hu; first | exact hu | exact newR w3 (⟨kPath, p⟩ : Rec) _ jj uu (by rw [valsR_one]; exact hu)
        case c2q1 => exact valsR_onecell _
        any_goals (first | (simp only [maxLen]; omega) | omega | (simp; omega))
        intro v' w6 hown hgrow hnil
        have S6 := Lib.hid (I1.app ST.out hown hgrow hnil)
        clear ST OW hown hgrow hnil d0 d1 d2 d3 d4 d5 d6 d7 d8 d9 f1 f2 f4 f5 f6
        obtain ⟨ol, xa, xf, ze2⟩ := S6.out.ok
        obtain ⟨d0, d1, d2, d3, d4, d5, d6, d7, d8, d9⟩ := xa.zero
        have f1 := xf 1
        have f2 := xf 2
        clear ol xa xf
        go_wp2_with fail
        refine (H3.out _).mono ?_
        rintro e w7 ⟨rfl, hb⟩
        have S7 := Lib.hid (S6.out.below hb)
        clear hb S6 d0 d1 d2 d3 d4 d5 d6 d7 d8 d9 f1 f2
        obtain ⟨ol, xa, xf, ze3⟩ := S7.out.ok
        obtain ⟨d0, d1, d2, d3, d4, d5, d6, d7, d8, d9⟩ := xa.zero
        have f1 := xf 1
        have f2 := xf 2
        clear ol xa xf
        go_wp2_with fail
        go_meet
        case rel => exact S7.out.store 1 (.string p1) rfl
    case rest =>
      clear ST H2 H3 HB1 HB2
      have ST := Lib.hid hcut
      clear hcut
      have HB0 : Hid (b2c k p1 l = (decide (100 < l.size) || (decide (k = 3) && decide (l = p1)))) := Lib.hid rfl
      have HB1 : Hid (b2l k p1 l = if b2c k p1 l then shortv k p1 l else l) := Lib.hid rfl
      have HB2 : Hid (b2L k p1 l L1 = if b2c k p1 l then L1 ++ [⟨kLink, l⟩] else L1) := Lib.hid rfl
      have hl2 := b2L_len k p1 l L1
      generalize b2l k p1 l = l2 at HB1 HE ⊢
      generalize b2L k p1 l L1 = L2 at HB2 HL hl2 ⊢
      generalize b2c k p1 l = cc at HB0 HB1 HB2 ⊢
      obtain ⟨gl, cl, hvl, _, _, _, _⟩ := ST.out.1.open
      subst hvl
      obtain ⟨ol, xa, xf, ze1⟩ := ST.out.ok
      have OW := Lib.hid ol.1
      obtain ⟨d0, d1, d2, d3, d4, d5, d6, d7, d8, d9⟩ := xa.zero
      have f1 := xf 1
      have f2 := xf 2
      have f4 := xf 4
      have f5 := xf 5
      have f6 := xf 6
      have zB := ST.out.2.2.2.size
      clear ol xa xf
      go_upto_region 9 with fail
      go_cut [4, 53] (fun v4 v wx => v4 = .slice (some ⟨gl, 0, none⟩) L1.length cl ∧ v = .bool cc ∧ wx = wc)
      case first =>
        by_cases a1 : (100 : Int) < (l.size : Int)
        · have HC : Hid (cc = true) := Lib.hid (by rw [HB0.out, decide_eq_true (by omega)]; rfl)
          go_wp2_with fail
          go_meet
          case rel => exact ⟨rfl, by rw [HC.out], rfl⟩
        · by_cases a2 : k = 3
          · have hq : (k == 3) = true := by simp [a2]
            by_cases a3 : l = p1
            · have q3 := ba_eq a3
              have HC : Hid (cc = true) := Lib.hid (by rw [HB0.out]; simp [a2, a3])
              clear a2 a3
              go_wp2_with fail
              go_meet
              case rel => exact ⟨rfl, by rw [HC.out], rfl⟩
            · have q3 := ba_ne a3
              have HC : Hid (cc = false) := Lib.hid (by rw [HB0.out]; simp [a3]; omega)
              clear a2 a3
              go_wp2_with fail
              go_meet
              case rel => exact ⟨rfl, by rw [HC.out], rfl⟩
          · have hq : (k == 3) = false := by simp [a2]
            have HC : Hid (cc = false) := Lib.hid (by rw [HB0.out]; simp [a2]; omega)
            clear a2
            go_wp2_with fail
            go_meet
            case rel => exact ⟨rfl, by rw [HC.out], rfl⟩
      case rest =>
        obtain ⟨hv4, hv5, hw5⟩ := hcut
        subst hv4 hv5
        obtain rfl := hw5
        have HK : cc = true → ¬ k = 3 → 100 < l.size := fun h h3 => by rw [HB0.out] at h; simp [h3] at h; exact h
        go_upto_if 53 with fail
        go_cut [4] (fun v wx => I1 w wx v L2 ⟨k, p1, l2, m, u, g, t, us, gr, b⟩)
        case first =>
          cases hcc : cc with
          | false =>
            rw [hcc] at HB1 HB2
            go_wp2_with fail
            go_meet
            case rel => rw [show l2 = l from HB1.out, show L2 = L1 from HB2.out]; exact ST.out
          | true =>
            rw [hcc] at HB1 HB2
            have hL2 : L2 = L1 ++ [⟨kLink, l⟩] := HB2.out
            have hl2' : l2 = shortv k p1 l := HB1.out
            have H4 := Lib.hid (fun w => short_impl k p1 l m u g t us gr b w hl (HK hcc))
            rw [← hl2'] at H4
            subst hL2
            clear HB0 HB1 HB2 HE HL hl2' HK
            go_wp2_with (at_builtin; refine wpList_append_own _ rfl _ _ 26 rfl w.heap.size 44 i0 (.agg #[.string ⟨#[]⟩, .string ⟨#[]⟩]) 2 32 Tryd.underlying26 hi0 hz0 hz1 hz2 rfl (by decide) _ (L1).length (valsR (L1)) rfl ?c0q2 ⟨wc.heap.size, 0, none⟩ 1 1 (valsR [(⟨kLink, l⟩ : Rec)]) rfl (valsR_len _) ?c1q2 ?c2q2 ?c3q2 ?c4q2 ?c5q2 ?_)
            case c0q2 => exact World.ownsRow.alloc OW.out _
            case c1q2 => intro jj uu hu; rw [valsR_one] at hu; first | exact hu | exact newR wc (⟨kLink, l⟩ : Rec) _ jj uu (by rw [valsR_one]; exact hu)
            case c2q2 => exact valsR_onecell _
            any_goals (first | (simp only [maxLen]; omega) | omega | (simp; omega))
            intro v' w6 hown hgrow hnil
            have S6 := Lib.hid (I1.app ST.out hown hgrow hnil)
            clear ST OW hown hgrow hnil d0 d1 d2 d3 d4 d5 d6 d7 d8 d9 f1 f2 f4 f5 f6
            obtain ⟨ol, xa, xf, ze2⟩ := S6.out.ok
            obtain ⟨d0, d1, d2, d3, d4, d5, d6, d7, d8, d9⟩ := xa.zero
            have f1 := xf 1
            have f2 := xf 2
            clear ol xa xf
            go_wp2_with fail
            refine (H4.out _).mono ?_
            rintro e w7 ⟨rfl, hb⟩
            have S7 := Lib.hid (S6.out.below hb)
            clear hb S6 d0 d1 d2 d3 d4 d5 d6 d7 d8 d9 f1 f2
            obtain ⟨ol, xa, xf, ze3⟩ := S7.out.ok
            obtain ⟨d0, d1, d2, d3, d4, d5, d6, d7, d8, d9⟩ := xa.zero
            have f1 := xf 1
            have f2 := xf 2
            clear ol xa xf
            go_wp2_with fail
            go_meet
            case rel => exact S7.out.store 2 (.string l2) rfl
        case rest =>
          clear ST HB0 HB1 HB2 HK OW d0 d1 d2 d3 d4 d5 d6 d7 d8 d9 f1 f2 f4 f5 f6 ze1 zB
          have ST := Lib.hid hcut
          clear hcut
          obtain ⟨gl, cl, hvl, _, _, _, _⟩ := ST.out.1.open
          subst hvl
          obtain ⟨ol, xa, xf, ze1⟩ := ST.out.ok
          have OW := Lib.hid ol.1
          obtain ⟨d0, d1, d2, d3, d4, d5, d6, d7, d8, d9⟩ := xa.zero
          have f1 := xf 1
          have f2 := xf 2
          have f4 := xf 4
          have f5 := xf 5
          have f6 := xf 6
          have zB := ST.out.2.2.2.size
          clear ol xa xf
          go_wp2_with fail
          have STa := Lib.hid (ST.out.below ((Below.refl wc.heap.size wc).alloc (o := .cells #[.string ⟨#[117, 105, 100]⟩, .int .i64 2097151, .pointer (some ⟨w.heap.size, 4, none⟩), .string ⟨#[103, 105, 100]⟩, .int .i64 2097151, .pointer (some ⟨w.heap.size, 5, none⟩), .string ⟨#[109, 116, 105, 109, 101]⟩, .int .i64 8589934591, .pointer (some ⟨w.heap.size, 6, none⟩)] 51) (Nat.le_refl _)))
          clear ST OW d0 d1 d2 d3 d4 d5 d6 d7 d8 d9 f1 f2 f4 f5 f6 ze1 zB
          have ST := STa
          clear STa
          have hx0 : ∀ w', (Instr.index 51 (.agg #[.string ⟨#[117, 105, 100]⟩, .int .i64 2097151, .pointer (some ⟨w.heap.size, 4, none⟩), .string ⟨#[103, 105, 100]⟩, .int .i64 2097151, .pointer (some ⟨w.heap.size, 5, none⟩), .string ⟨#[109, 116, 105, 109, 101]⟩, .int .i64 8589934591, .pointer (some ⟨w.heap.size, 6, none⟩)]) (.int .i64 0)).run Tryd.prog w' = .ok (.agg #[.string ⟨#[117, 105, 100]⟩, .int .i64 2097151, .pointer (some ⟨w.heap.size, 4, none⟩)]) w' := fun _ => by kernel_rfl
          have hx1 : ∀ w', (Instr.index 51 (.agg #[.string ⟨#[117, 105, 100]⟩, .int .i64 2097151, .pointer (some ⟨w.heap.size, 4, none⟩), .string ⟨#[103, 105, 100]⟩, .int .i64 2097151, .pointer (some ⟨w.heap.size, 5, none⟩), .string ⟨#[109, 116, 105, 109, 101]⟩, .int .i64 8589934591, .pointer (some ⟨w.heap.size, 6, none⟩)]) (.int .i64 1)).run Tryd.prog w' = .ok (.agg #[.string ⟨#[103, 105, 100]⟩, .int .i64 2097151, .pointer (some ⟨w.heap.size, 5, none⟩)]) w' := fun _ => by kernel_rfl
          have hx2 : ∀ w', (Instr.index 51 (.agg #[.string ⟨#[117, 105, 100]⟩, .int .i64 2097151, .pointer (some ⟨w.heap.size, 4, none⟩), .string ⟨#[103, 105, 100]⟩, .int .i64 2097151, .pointer (some ⟨w.heap.size, 5, none⟩), .string ⟨#[109, 116, 105, 109, 101]⟩, .int .i64 8589934591, .pointer (some ⟨w.heap.size, 6, none⟩)]) (.int .i64 2)).run Tryd.prog w' = .ok (.agg #[.string ⟨#[109, 116, 105, 109, 101]⟩, .int .i64 8589934591, .pointer (some ⟨w.heap.size, 6, none⟩)]) w' := fun _ => by kernel_rfl
          generalize wc.alloc (.cells #[.string ⟨#[117, 105, 100]⟩, .int .i64 2097151, .pointer (some ⟨w.heap.size, 4, none⟩), .string ⟨#[103, 105, 100]⟩, .int .i64 2097151, .pointer (some ⟨w.heap.size, 5, none⟩), .string ⟨#[109, 116, 105, 109, 101]⟩, .int .i64 8589934591, .pointer (some ⟨w.heap.size, 6, none⟩)] 51) = wk at *
          refine wp_loop_rounds 4 ?_
          rw [rounds_succ]
          have HB1 : Hid (bn 2097151 u = if 2097151 < u then 0 else u) := Lib.hid rfl
          have HB2 : Hid (bnL kUid 2097151 u L2 = if 2097151 < u then L2 ++ [⟨kUid, decTextv u⟩] else L2) := Lib.hid rfl
          have hl3 := bnL_len kUid 2097151 u L2
          generalize bn 2097151 u = u3 at HB1 HE ⊢
          generalize bnL kUid 2097151 u L2 = L3 at HB2 HL hl3 ⊢
          go_upto_block 1 with fail
          go_cut [4, 70, 71] (fun v v70 v71 wx => v70 = .agg #[.string ⟨#[117, 105, 100]⟩, .int .i64 2097151, .pointer (some ⟨w.heap.size, 4, none⟩), .string ⟨#[103, 105, 100]⟩, .int .i64 2097151, .pointer (some ⟨w.heap.size, 5, none⟩), .string ⟨#[109, 116, 105, 109, 101]⟩, .int .i64 8589934591, .pointer (some ⟨w.heap.size, 6, none⟩)] ∧ v71 = .int .i64 0 ∧ I1 w wx v L3 ⟨k, p1, l2, m, u3, g, t, us, gr, b⟩)
          case first =>
            go_upto_region 16 with fail
            have STb := Lib.hid (ST.out.below ((Below.refl _ _).alloc (o := .cells #[.string ⟨#[117, 105, 100]⟩, .int .i64 2097151, .pointer (some ⟨w.heap.size, 4, none⟩)] 50) (Nat.le_refl _)))
            have NB := heap_alloc_lastN wk (.cells #[.string ⟨#[117, 105, 100]⟩, .int .i64 2097151, .pointer (some ⟨w.heap.size, 4, none⟩)] 50)
            generalize wk.alloc (.cells #[.string ⟨#[117, 105, 100]⟩, .int .i64 2097151, .pointer (some ⟨w.heap.size, 4, none⟩)] 50) = w4 at *
            generalize wk.heap.size = gn at *
            have HNB := Lib.hid NB
            have n0 : w4.cell? ⟨gn, 0, none⟩ = some (.string ⟨#[117, 105, 100]⟩) := by simp [World.cell?, NB]
            have n1 : w4.cell? ⟨gn, 1, none⟩ = some (.int .i64 2097151) := by simp [World.cell?, NB]
            have n2 : w4.cell? ⟨gn, 2, none⟩ = some (.pointer (some ⟨w.heap.size, 4, none⟩)) := by simp [World.cell?, NB]
            clear NB ST
            have ST := STb
            clear STb
            obtain ⟨ol, xa, xf, ze1⟩ := ST.out.ok
            have OW := Lib.hid ol.1
            obtain ⟨d0, d1, d2, d3, d4, d5, d6, d7, d8, d9⟩ := xa.zero
            have f1 := xf 1
            have f2 := xf 2
            have f4 := xf 4
            have f5 := xf 5
            have f6 := xf 6
            have zB := ST.out.2.2.2.size
            clear ol xa xf
            go_region
            have STd : Hid (I1 w w4.drew (.slice (some ⟨gl, 0, none⟩) L2.length cl) L2 ⟨k, p1, l2, m, u, g, t, us, gr, b⟩) := Lib.hid ⟨ST.out.1, ST.out.2.1, ST.out.2.2.1, ST.out.2.2.2.drew⟩
            have HNd : Hid (w4.drew.heap[gn]? = some (.cells #[.string ⟨#[117, 105, 100]⟩, .int .i64 2097151, .pointer (some ⟨w.heap.size, 4, none⟩)] 50 (0, 0))) := Lib.hid HNB.out
            clear ST HNB OW n0 n1 n2 d0 d1 d2 d3 d4 d5 d6 d7 d8 d9 f1 f2 f4 f5 f6 ze1 zB
            generalize w4.drew = w5 at *
            have ST := STd
            clear STd
            by_cases hq : 2097151 < u
            · have hn : u3 = 0 := by rw [HB1.out, if_pos hq]
              have hL : L3 = L2 ++ [⟨kUid, decTextv u⟩] := by rw [HB2.out, if_pos hq]
              have HN0 := Lib.hid hn
              have HL0 := Lib.hid hL
              clear HB1 HB2 HE HL hn hL
              have B9 := Lib.hid ST.out.2.2.2
              have KC : Hid (∀ w', Below w5.heap.size w5 w' → w'.cell? ⟨gn, 0, none⟩ = some (.string ⟨#[117, 105, 100]⟩) ∧ w'.cell? ⟨gn, 2, none⟩ = some (.pointer (some ⟨w.heap.size, 4, none⟩)) ∧ w'.cell? ⟨w.heap.size, 4, none⟩ = some (.int .i64 u)) := Lib.hid (fun w' hb => by
                have h1 := (hb.block gn (Array.getElem?_eq_some_iff.1 HNd.out).1).trans HNd.out
                have h2 := (ST.out.2.1.below hb ST.out.2.1.lt).at 4 (by omega)
                exact ⟨by simp [World.cell?, h1], by simp [World.cell?, h1], h2⟩)
              go_upto_region 17 with fail
              refine wp_region_cut 10 (by kernel_rfl) (fun w' => Below w5.heap.size w5 w') (fun x y => Below x.heap.size x y) (vSl w5.heap.size #[.string ⟨#[117, 105, 100]⟩, .string (decTextv u)] (fun d v => match d with | 81 => v = .slice (some ⟨gl, 0, none⟩) L2.length cl | 82 => v = .pointer (some ⟨gn, 0, none⟩) | 83 => v = .string ⟨#[117, 105, 100]⟩ | 84 => v = .pointer (some ⟨gn, 2, none⟩) | 85 => v = .pointer (some ⟨w.heap.size, 4, none⟩) | 86 => v = .pointer (some ⟨w.heap.size, 4, none⟩) | 87 => v = .int .i64 u | 88 => v = .string (decTextv u) | 89 => v = .agg #[.string ⟨#[117, 105, 100]⟩, .string (decTextv u)] | _ => True)) (by kernel_rfl) (by kernel_rfl) ((Below.refl _ _).drew) (vSl_keep _ _ _) (by simp) ?hopsu ?hendu
              case hopsu =>
                simp only [List.take_succ_cons, List.take_zero, List.forall_mem_cons]
                refine ⟨?ou81, ?ou82, ?ou83, ?ou84, ?ou85, ?ou86, ?ou87, ?ou88, ?ou89, ?ou90, fun _ h => by cases h⟩
                case ou81 =>
                  intro Q a w2 hC hV hI
                  have e4 : a.eval (.tmp 4) = .slice (some ⟨gl, 0, none⟩) L2.length cl := (hI 4 (by simp [Op.operands]) (by kernel_rfl)).trans rfl
                  have f4 : a.tmps.getD 4 undef = .slice (some ⟨gl, 0, none⟩) L2.length cl := e4
                  have g4 : a.tmps[4]?.getD undef = .slice (some ⟨gl, 0, none⟩) L2.length cl := by rw [← Array.getD_eq_getD_getElem?]; exact e4
                  refine op_val (.slice (some ⟨gl, 0, none⟩) L2.length cl) ?_ hC (Below.refl _ _) (by intro d hd; cases hd; exact rfl)
                  (clear hV hI hC; go_simp <;> (first | rfl | simp))
                case ou82 =>
                  intro Q a w2 hC hV hI
                  have e10 : a.eval (.tmp 10) = .pointer (some ⟨gn, 0, none⟩) := (hI 10 (by simp [Op.operands]) (by kernel_rfl)).trans rfl
                  have f10 : a.tmps.getD 10 undef = .pointer (some ⟨gn, 0, none⟩) := e10
                  have g10 : a.tmps[10]?.getD undef = .pointer (some ⟨gn, 0, none⟩) := by rw [← Array.getD_eq_getD_getElem?]; exact e10
                  refine op_val (.pointer (some ⟨gn, 0, none⟩)) ?_ hC (Below.refl _ _) (by intro d hd; cases hd; exact rfl)
                  (clear hV hI hC; go_simp <;> (first | rfl | simp))
                case ou83 =>
                  intro Q a w2 hC hV hI
                  have e82 : a.eval (.tmp 82) = .pointer (some ⟨gn, 0, none⟩) := hV 82 (by simp [Op.operands]) (by kernel_rfl)
                  have f82 : a.tmps.getD 82 undef = .pointer (some ⟨gn, 0, none⟩) := e82
                  have g82 : a.tmps[82]?.getD undef = .pointer (some ⟨gn, 0, none⟩) := by rw [← Array.getD_eq_getD_getElem?]; exact e82
                  obtain ⟨k0, k2, k4⟩ := KC.out w2 hC
                  refine op_val (.string ⟨#[117, 105, 100]⟩) ?_ hC (Below.refl _ _) (by intro d hd; cases hd; exact rfl)
                  (clear hV hI hC; go_simp <;> (first | rfl | simp))
                case ou84 =>
                  intro Q a w2 hC hV hI
                  have e10 : a.eval (.tmp 10) = .pointer (some ⟨gn, 0, none⟩) := (hI 10 (by simp [Op.operands]) (by kernel_rfl)).trans rfl
                  have f10 : a.tmps.getD 10 undef = .pointer (some ⟨gn, 0, none⟩) := e10
                  have g10 : a.tmps[10]?.getD undef = .pointer (some ⟨gn, 0, none⟩) := by rw [← Array.getD_eq_getD_getElem?]; exact e10
                  refine op_val (.pointer (some ⟨gn, 2, none⟩)) ?_ hC (Below.refl _ _) (by intro d hd; cases hd; exact rfl)
                  (clear hV hI hC; go_simp <;> (first | rfl | simp))
                case ou85 =>
                  intro Q a w2 hC hV hI
                  have e84 : a.eval (.tmp 84) = .pointer (some ⟨gn, 2, none⟩) := hV 84 (by simp [Op.operands]) (by kernel_rfl)
                  have f84 : a.tmps.getD 84 undef = .pointer (some ⟨gn, 2, none⟩) := e84
                  have g84 : a.tmps[84]?.getD undef = .pointer (some ⟨gn, 2, none⟩) := by rw [← Array.getD_eq_getD_getElem?]; exact e84
                  obtain ⟨k0, k2, k4⟩ := KC.out w2 hC
                  refine op_val (.pointer (some ⟨w.heap.size, 4, none⟩)) ?_ hC (Below.refl _ _) (by intro d hd; cases hd; exact rfl)
                  (clear hV hI hC; go_simp <;> (first | rfl | simp))
                case ou86 =>
                  intro Q a w2 hC hV hI
                  have e85 : a.eval (.tmp 85) = .pointer (some ⟨w.heap.size, 4, none⟩) := hV 85 (by simp [Op.operands]) (by kernel_rfl)
                  have f85 : a.tmps.getD 85 undef = .pointer (some ⟨w.heap.size, 4, none⟩) := e85
                  have g85 : a.tmps[85]?.getD undef = .pointer (some ⟨w.heap.size, 4, none⟩) := by rw [← Array.getD_eq_getD_getElem?]; exact e85
                  refine op_val (.pointer (some ⟨w.heap.size, 4, none⟩)) ?_ hC (Below.refl _ _) (by intro d hd; cases hd; exact rfl)
                  (clear hV hI hC; go_simp <;> (first | rfl | simp))
                case ou87 =>
                  intro Q a w2 hC hV hI
                  have e86 : a.eval (.tmp 86) = .pointer (some ⟨w.heap.size, 4, none⟩) := hV 86 (by simp [Op.operands]) (by kernel_rfl)
                  have f86 : a.tmps.getD 86 undef = .pointer (some ⟨w.heap.size, 4, none⟩) := e86
                  have g86 : a.tmps[86]?.getD undef = .pointer (some ⟨w.heap.size, 4, none⟩) := by rw [← Array.getD_eq_getD_getElem?]; exact e86
                  obtain ⟨k0, k2, k4⟩ := KC.out w2 hC
                  refine op_val (.int .i64 u) ?_ hC (Below.refl _ _) (by intro d hd; cases hd; exact rfl)
                  (clear hV hI hC; go_simp <;> (first | rfl | simp))
                case ou88 =>
                  intro Q a w2 hC hV hI
                  have e87 : a.eval (.tmp 87) = .int .i64 u := hV 87 (by simp [Op.operands, Call.operands]) (by kernel_rfl)
                  have f87 : a.tmps.getD 87 undef = .int .i64 u := e87
                  have g87 : a.tmps[87]?.getD undef = .int .i64 u := by rw [← Array.getD_eq_getD_getElem?]; exact e87
                  refine op_call (f := 27) (args := #[.int .i64 u]) (R := fun v y => v = .string (decTextv u) ∧ Below w2.heap.size w2 y) ?_ ((decText_impl u hu0 hu1 w2 (Lib.tabBelow_of_tabIs HT.out _ (B9.out.trans (hC.mono B9.out.size)))).mono ?_) ?_
                  · (clear hV hI hC; go_simp <;> (first | rfl | simp))
                  · rintro e y ⟨rfl, hb⟩; exact ⟨_, rfl, rfl, hb⟩
                  · rintro v y ⟨rfl, hb⟩; exact ⟨hC.trans (hb.mono hC.size), hb, by intro d hd; cases hd; exact rfl⟩
                case ou89 =>
                  intro Q a w2 hC hV hI
                  have e83 : a.eval (.tmp 83) = .string ⟨#[117, 105, 100]⟩ := hV 83 (by simp [Op.operands]) (by kernel_rfl)
                  have f83 : a.tmps.getD 83 undef = .string ⟨#[117, 105, 100]⟩ := e83
                  have g83 : a.tmps[83]?.getD undef = .string ⟨#[117, 105, 100]⟩ := by rw [← Array.getD_eq_getD_getElem?]; exact e83
                  have e88 : a.eval (.tmp 88) = .string (decTextv u) := hV 88 (by simp [Op.operands]) (by kernel_rfl)
                  have f88 : a.tmps.getD 88 undef = .string (decTextv u) := e88
                  have g88 : a.tmps[88]?.getD undef = .string (decTextv u) := by rw [← Array.getD_eq_getD_getElem?]; exact e88
                  refine op_val (.agg #[.string ⟨#[117, 105, 100]⟩, .string (decTextv u)]) ?_ hC (Below.refl _ _) (by intro d hd; cases hd; exact rfl)
                  (clear hV hI hC; go_simp <;> (first | rfl | simp))
                case ou90 =>
                  intro Q a w2 hC hV hI
                  have e89 : a.eval (.tmp 89) = .agg #[.string ⟨#[117, 105, 100]⟩, .string (decTextv u)] := hV 89 (by simp [Op.operands]) (by kernel_rfl)
                  have f89 : a.tmps.getD 89 undef = .agg #[.string ⟨#[117, 105, 100]⟩, .string (decTextv u)] := e89
                  have g89 : a.tmps[89]?.getD undef = .agg #[.string ⟨#[117, 105, 100]⟩, .string (decTextv u)] := by rw [← Array.getD_eq_getD_getElem?]; exact e89
                  refine op_val (.slice (some ⟨w2.heap.size, 0, none⟩) 1 1) (w' := w2.alloc (.cells #[.string ⟨#[117, 105, 100]⟩, .string (decTextv u)] 44)) ?_ (hC.alloc hC.size _) ((Below.refl _ _).alloc (Nat.le_refl _) _) ?_
                  · (clear hV hI hC; go_simp <;> (first | rfl | simp))
                  · intro d hd; cases hd; exact ⟨w2.heap.size, rfl, hC.size, heap_alloc_lastN _ _⟩
              case hendu =>
                intro f w8 hC hall
                simp only [List.take_succ_cons, List.take_zero, List.drop_succ_cons, List.drop_zero] at hall ⊢
                simp only [List.forall_mem_cons] at hall
                obtain ⟨h81, h82, h83, h84, h85, h86, h87, h88, h89, h90, _⟩ := hall
                replace h81 : f 81 = .slice (some ⟨gl, 0, none⟩) L2.length cl := h81 81 rfl
                replace h82 : f 82 = .pointer (some ⟨gn, 0, none⟩) := h82 82 rfl
                replace h83 : f 83 = .string ⟨#[117, 105, 100]⟩ := h83 83 rfl
                replace h84 : f 84 = .pointer (some ⟨gn, 2, none⟩) := h84 84 rfl
                replace h85 : f 85 = .pointer (some ⟨w.heap.size, 4, none⟩) := h85 85 rfl
                replace h86 : f 86 = .pointer (some ⟨w.heap.size, 4, none⟩) := h86 86 rfl
                replace h87 : f 87 = .int .i64 u := h87 87 rfl
                replace h88 : f 88 = .string (decTextv u) := h88 88 rfl
                replace h89 : f 89 = .agg #[.string ⟨#[117, 105, 100]⟩, .string (decTextv u)] := h89 89 rfl
                obtain ⟨G, hG, hGB, hGO⟩ : ∃ G, f 90 = .slice (some ⟨G, 0, none⟩) 1 1 ∧ w5.heap.size ≤ G ∧ w8.heap[G]? = some (.cells #[.string ⟨#[117, 105, 100]⟩, .string (decTextv u)] 44 (0, 0)) := h90 90 rfl
                simp only [putAll, Act.put, List.setIfInBounds_toArray, List.set_cons_succ, List.set_cons_zero, h81, h82, h83, h84, h85, h86, h87, h88, h89, hG]
                clear h81 h82 h83 h84 h85 h86 h87 h88 h89 hG
                have S8 := Lib.hid (ST.out.below hC)
                have N8 := Lib.hid ((hC.block gn (Array.getElem?_eq_some_iff.1 HNd.out).1).trans HNd.out)
                have OW := Lib.hid S8.out.1.1
                have zB := S8.out.2.2.2.size
                clear ST HNd KC hC
                go_wp2_with (at_builtin; refine wpList_append_own _ rfl _ _ 26 rfl w.heap.size 44 i0 (.agg #[.string ⟨#[]⟩, .string ⟨#[]⟩]) 2 32 Tryd.underlying26 hi0 hz0 hz1 hz2 rfl (by decide) _ L2.length (valsR L2) rfl ?c0r0 ⟨G, 0, none⟩ 1 1 (valsR [(⟨kUid, decTextv u⟩ : Rec)]) rfl (valsR_len _) ?c1r0 ?c2r0 ?c3r0 ?c4r0 ?c5r0 ?_)
                case c0r0 => exact OW.out
                case c1r0 => intro jj uu hu; rw [valsR_one] at hu; exact rowN hGO jj uu hu
                case c2r0 => exact valsR_onecell _
                any_goals (first | (simp only [maxLen]; omega) | omega | (simp; omega))
                intro v' w6 hown hgrow hnil
                have S6 := Lib.hid (I1.app2 S8.out hown hgrow hnil)
                have N6 := Lib.hid ((hgrow.block gn (Array.getElem?_eq_some_iff.1 N8.out).1 (own_neT S8.out.1.1 N8.out (by decide))).trans N8.out)
                clear S8 N8 OW hown hgrow hnil hGO
                have n2 : w6.cell? ⟨gn, 2, none⟩ = some (.pointer (some ⟨w.heap.size, 4, none⟩)) := by simp [World.cell?, N6.out]
                obtain ⟨ol, xa, xf, ze2⟩ := S6.out.ok
                obtain ⟨d0, d1, d2, d3, d4, d5, d6, d7, d8, d9⟩ := xa.zero
                have f9 := xf 4
                clear ol xa xf
                go_wp2_with fail
                go_meet
                case rel => rw [HN0.out, HL0.out]; exact ⟨rfl, rfl, S6.out.store 4 (.int .i64 0) rfl⟩
            · have hn : u3 = u := by rw [HB1.out, if_neg hq]
              have hL : L3 = L2 := by rw [HB2.out, if_neg hq]
              clear HB1 HB2 HE HL
              go_wp2_with fail
              go_meet
              case rel => rw [hn, hL]; exact ⟨rfl, rfl, ST.out⟩
          case rest =>
            obtain ⟨h70, h71, hI⟩ := hcut
            subst h70 h71
            clear ST HB1 HB2
            have ST := Lib.hid hI
            clear hI
            obtain ⟨gl, cl, hvl, _, _, _, _⟩ := ST.out.1.open
            subst hvl
            go_wp2_with fail
            rw [rounds_succ]
            have HB1 : Hid (bn 2097151 g = if 2097151 < g then 0 else g) := Lib.hid rfl
            have HB2 : Hid (bnL kGid 2097151 g L3 = if 2097151 < g then L3 ++ [⟨kGid, decTextv g⟩] else L3) := Lib.hid rfl
            have hl4 := bnL_len kGid 2097151 g L3
            generalize bn 2097151 g = g4 at HB1 HE ⊢
            generalize bnL kGid 2097151 g L3 = L4 at HB2 HL hl4 ⊢
            go_upto_block 1 with fail
            go_cut [4, 70, 71] (fun v v70 v71 wx => v70 = .agg #[.string ⟨#[117, 105, 100]⟩, .int .i64 2097151, .pointer (some ⟨w.heap.size, 4, none⟩), .string ⟨#[103, 105, 100]⟩, .int .i64 2097151, .pointer (some ⟨w.heap.size, 5, none⟩), .string ⟨#[109, 116, 105, 109, 101]⟩, .int .i64 8589934591, .pointer (some ⟨w.heap.size, 6, none⟩)] ∧ v71 = .int .i64 1 ∧ I1 w wx v L4 ⟨k, p1, l2, m, u3, g4, t, us, gr, b⟩)
            case first =>
              go_upto_region 16 with fail
              have STb := Lib.hid (ST.out.below ((Below.refl _ _).alloc (o := .cells #[.string ⟨#[103, 105, 100]⟩, .int .i64 2097151, .pointer (some ⟨w.heap.size, 5, none⟩)] 50) (Nat.le_refl _)))
              have NB := heap_alloc_lastN wc (.cells #[.string ⟨#[103, 105, 100]⟩, .int .i64 2097151, .pointer (some ⟨w.heap.size, 5, none⟩)] 50)
              generalize wc.alloc (.cells #[.string ⟨#[103, 105, 100]⟩, .int .i64 2097151, .pointer (some ⟨w.heap.size, 5, none⟩)] 50) = w4 at *
              generalize wc.heap.size = gn at *
              have HNB := Lib.hid NB
              have n0 : w4.cell? ⟨gn, 0, none⟩ = some (.string ⟨#[103, 105, 100]⟩) := by simp [World.cell?, NB]
              have n1 : w4.cell? ⟨gn, 1, none⟩ = some (.int .i64 2097151) := by simp [World.cell?, NB]
              have n2 : w4.cell? ⟨gn, 2, none⟩ = some (.pointer (some ⟨w.heap.size, 5, none⟩)) := by simp [World.cell?, NB]
              clear NB ST
              have ST := STb
              clear STb
              obtain ⟨ol, xa, xf, ze1⟩ := ST.out.ok
              have OW := Lib.hid ol.1
              obtain ⟨d0, d1, d2, d3, d4, d5, d6, d7, d8, d9⟩ := xa.zero
              have f1 := xf 1
              have f2 := xf 2
              have f4 := xf 4
              have f5 := xf 5
              have f6 := xf 6
              have zB := ST.out.2.2.2.size
              clear ol xa xf
              go_region
              have STd : Hid (I1 w w4.drew (.slice (some ⟨gl, 0, none⟩) L3.length cl) L3 ⟨k, p1, l2, m, u3, g, t, us, gr, b⟩) := Lib.hid ⟨ST.out.1, ST.out.2.1, ST.out.2.2.1, ST.out.2.2.2.drew⟩
              have HNd : Hid (w4.drew.heap[gn]? = some (.cells #[.string ⟨#[103, 105, 100]⟩, .int .i64 2097151, .pointer (some ⟨w.heap.size, 5, none⟩)] 50 (0, 0))) := Lib.hid HNB.out
              clear ST HNB OW n0 n1 n2 d0 d1 d2 d3 d4 d5 d6 d7 d8 d9 f1 f2 f4 f5 f6 ze1 zB
              generalize w4.drew = w5 at *
              have ST := STd
              clear STd
              by_cases hq : 2097151 < g
              · have hn : g4 = 0 := by rw [HB1.out, if_pos hq]
                have hL : L4 = L3 ++ [⟨kGid, decTextv g⟩] := by rw [HB2.out, if_pos hq]
                have HN0 := Lib.hid hn
                have HL0 := Lib.hid hL
                clear HB1 HB2 HE HL hn hL
                have B9 := Lib.hid ST.out.2.2.2
                have KC : Hid (∀ w', Below w5.heap.size w5 w' → w'.cell? ⟨gn, 0, none⟩ = some (.string ⟨#[103, 105, 100]⟩) ∧ w'.cell? ⟨gn, 2, none⟩ = some (.pointer (some ⟨w.heap.size, 5, none⟩)) ∧ w'.cell? ⟨w.heap.size, 5, none⟩ = some (.int .i64 g)) := Lib.hid (fun w' hb => by
                  have h1 := (hb.block gn (Array.getElem?_eq_some_iff.1 HNd.out).1).trans HNd.out
                  have h2 := (ST.out.2.1.below hb ST.out.2.1.lt).at 5 (by omega)
                  exact ⟨by simp [World.cell?, h1], by simp [World.cell?, h1], h2⟩)
                go_upto_region 17 with fail
                refine wp_region_cut 10 (by kernel_rfl) (fun w' => Below w5.heap.size w5 w') (fun x y => Below x.heap.size x y) (vSl w5.heap.size #[.string ⟨#[103, 105, 100]⟩, .string (decTextv g)] (fun d v => match d with | 81 => v = .slice (some ⟨gl, 0, none⟩) L3.length cl | 82 => v = .pointer (some ⟨gn, 0, none⟩) | 83 => v = .string ⟨#[103, 105, 100]⟩ | 84 => v = .pointer (some ⟨gn, 2, none⟩) | 85 => v = .pointer (some ⟨w.heap.size, 5, none⟩) | 86 => v = .pointer (some ⟨w.heap.size, 5, none⟩) | 87 => v = .int .i64 g | 88 => v = .string (decTextv g) | 89 => v = .agg #[.string ⟨#[103, 105, 100]⟩, .string (decTextv g)] | _ => True)) (by kernel_rfl) (by kernel_rfl) ((Below.refl _ _).drew) (vSl_keep _ _ _) (by simp) ?hopsg ?hendg
                case hopsg =>
                  simp only [List.take_succ_cons, List.take_zero, List.forall_mem_cons]
                  refine ⟨?og81, ?og82, ?og83, ?og84, ?og85, ?og86, ?og87, ?og88, ?og89, ?og90, fun _ h => by cases h⟩
                  case og81 =>
                    intro Q a w2 hC hV hI
                    have e4 : a.eval (.tmp 4) = .slice (some ⟨gl, 0, none⟩) L3.length cl := (hI 4 (by simp [Op.operands]) (by kernel_rfl)).trans rfl
                    have f4 : a.tmps.getD 4 undef = .slice (some ⟨gl, 0, none⟩) L3.length cl := e4
                    have g4 : a.tmps[4]?.getD undef = .slice (some ⟨gl, 0, none⟩) L3.length cl := by rw [← Array.getD_eq_getD_getElem?]; exact e4
                    refine op_val (.slice (some ⟨gl, 0, none⟩) L3.length cl) ?_ hC (Below.refl _ _) (by intro d hd; cases hd; exact rfl)
                    (clear hV hI hC; go_simp <;> (first | rfl | simp))
                  case og82 =>
                    intro Q a w2 hC hV hI
                    have e10 : a.eval (.tmp 10) = .pointer (some ⟨gn, 0, none⟩) := (hI 10 (by simp [Op.operands]) (by kernel_rfl)).trans rfl
                    have f10 : a.tmps.getD 10 undef = .pointer (some ⟨gn, 0, none⟩) := e10
                    have g10 : a.tmps[10]?.getD undef = .pointer (some ⟨gn, 0, none⟩) := by rw [← Array.getD_eq_getD_getElem?]; exact e10
                    refine op_val (.pointer (some ⟨gn, 0, none⟩)) ?_ hC (Below.refl _ _) (by intro d hd; cases hd; exact rfl)
                    (clear hV hI hC; go_simp <;> (first | rfl | simp))
                  case og83 =>
                    intro Q a w2 hC hV hI
                    have e82 : a.eval (.tmp 82) = .pointer (some ⟨gn, 0, none⟩) := hV 82 (by simp [Op.operands]) (by kernel_rfl)
                    have f82 : a.tmps.getD 82 undef = .pointer (some ⟨gn, 0, none⟩) := e82
                    have g82 : a.tmps[82]?.getD undef = .pointer (some ⟨gn, 0, none⟩) := by rw [← Array.getD_eq_getD_getElem?]; exact e82
                    obtain ⟨k0, k2, k4⟩ := KC.out w2 hC
                    refine op_val (.string ⟨#[103, 105, 100]⟩) ?_ hC (Below.refl _ _) (by intro d hd; cases hd; exact rfl)
                    (clear hV hI hC; go_simp <;> (first | rfl | simp))
                  case og84 =>
                    intro Q a w2 hC hV hI
                    have e10 : a.eval (.tmp 10) = .pointer (some ⟨gn, 0, none⟩) := (hI 10 (by simp [Op.operands]) (by kernel_rfl)).trans rfl
                    have f10 : a.tmps.getD 10 undef = .pointer (some ⟨gn, 0, none⟩) := e10
                    have g10 : a.tmps[10]?.getD undef = .pointer (some ⟨gn, 0, none⟩) := by rw [← Array.getD_eq_getD_getElem?]; exact e10
                    refine op_val (.pointer (some ⟨gn, 2, none⟩)) ?_ hC (Below.refl _ _) (by intro d hd; cases hd; exact rfl)
                    (clear hV hI hC; go_simp <;> (first | rfl | simp))
                  case og85 =>
                    intro Q a w2 hC hV hI
                    have e84 : a.eval (.tmp 84) = .pointer (some ⟨gn, 2, none⟩) := hV 84 (by simp [Op.operands]) (by kernel_rfl)
                    have f84 : a.tmps.getD 84 undef = .pointer (some ⟨gn, 2, none⟩) := e84
                    have g84 : a.tmps[84]?.getD undef = .pointer (some ⟨gn, 2, none⟩) := by rw [← Array.getD_eq_getD_getElem?]; exact e84
                    obtain ⟨k0, k2, k4⟩ := KC.out w2 hC
                    refine op_val (.pointer (some ⟨w.heap.size, 5, none⟩)) ?_ hC (Below.refl _ _) (by intro d hd; cases hd; exact rfl)
                    (clear hV hI hC; go_simp <;> (first | rfl | simp))
                  case og86 =>
                    intro Q a w2 hC hV hI
                    have e85 : a.eval (.tmp 85) = .pointer (some ⟨w.heap.size, 5, none⟩) := hV 85 (by simp [Op.operands]) (by kernel_rfl)
                    have f85 : a.tmps.getD 85 undef = .pointer (some ⟨w.heap.size, 5, none⟩) := e85
                    have g85 : a.tmps[85]?.getD undef = .pointer (some ⟨w.heap.size, 5, none⟩) := by rw [← Array.getD_eq_getD_getElem?]; exact e85
                    refine op_val (.pointer (some ⟨w.heap.size, 5, none⟩)) ?_ hC (Below.refl _ _) (by intro d hd; cases hd; exact rfl)
                    (clear hV hI hC; go_simp <;> (first | rfl | simp))
                  case og87 =>
                    intro Q a w2 hC hV hI
                    have e86 : a.eval (.tmp 86) = .pointer (some ⟨w.heap.size, 5, none⟩) := hV 86 (by simp [Op.operands]) (by kernel_rfl)
                    have f86 : a.tmps.getD 86 undef = .pointer (some ⟨w.heap.size, 5, none⟩) := e86
                    have g86 : a.tmps[86]?.getD undef = .pointer (some ⟨w.heap.size, 5, none⟩) := by rw [← Array.getD_eq_getD_getElem?]; exact e86
                    obtain ⟨k0, k2, k4⟩ := KC.out w2 hC
                    refine op_val (.int .i64 g) ?_ hC (Below.refl _ _) (by intro d hd; cases hd; exact rfl)
                    (clear hV hI hC; go_simp <;> (first | rfl | simp))
                  case og88 =>
                    intro Q a w2 hC hV hI
                    have e87 : a.eval (.tmp 87) = .int .i64 g := hV 87 (by simp [Op.operands, Call.operands]) (by kernel_rfl)
                    have f87 : a.tmps.getD 87 undef = .int .i64 g := e87
                    have g87 : a.tmps[87]?.getD undef = .int .i64 g := by rw [← Array.getD_eq_getD_getElem?]; exact e87
                    refine op_call (f := 27) (args := #[.int .i64 g]) (R := fun v y => v = .string (decTextv g) ∧ Below w2.heap.size w2 y) ?_ ((decText_impl g hg0 hg1 w2 (Lib.tabBelow_of_tabIs HT.out _ (B9.out.trans (hC.mono B9.out.size)))).mono ?_) ?_
                    · (clear hV hI hC; go_simp <;> (first | rfl | simp))
                    · rintro e y ⟨rfl, hb⟩; exact ⟨_, rfl, rfl, hb⟩
                    · rintro v y ⟨rfl, hb⟩; exact ⟨hC.trans (hb.mono hC.size), hb, by intro d hd; cases hd; exact rfl⟩
                  case og89 =>
                    intro Q a w2 hC hV hI
                    have e83 : a.eval (.tmp 83) = .string ⟨#[103, 105, 100]⟩ := hV 83 (by simp [Op.operands]) (by kernel_rfl)
                    have f83 : a.tmps.getD 83 undef = .string ⟨#[103, 105, 100]⟩ := e83
                    have g83 : a.tmps[83]?.getD undef = .string ⟨#[103, 105, 100]⟩ := by rw [← Array.getD_eq_getD_getElem?]; exact e83
                    have e88 : a.eval (.tmp 88) = .string (decTextv g) := hV 88 (by simp [Op.operands]) (by kernel_rfl)
                    have f88 : a.tmps.getD 88 undef = .string (decTextv g) := e88
                    have g88 : a.tmps[88]?.getD undef = .string (decTextv g) := by rw [← Array.getD_eq_getD_getElem?]; exact e88
                    refine op_val (.agg #[.string ⟨#[103, 105, 100]⟩, .string (decTextv g)]) ?_ hC (Below.refl _ _) (by intro d hd; cases hd; exact rfl)
                    (clear hV hI hC; go_simp <;> (first | rfl | simp))
                  case og90 =>
                    intro Q a w2 hC hV hI
                    have e89 : a.eval (.tmp 89) = .agg #[.string ⟨#[103, 105, 100]⟩, .string (decTextv g)] := hV 89 (by simp [Op.operands]) (by kernel_rfl)
                    have f89 : a.tmps.getD 89 undef = .agg #[.string ⟨#[103, 105, 100]⟩, .string (decTextv g)] := e89
                    have g89 : a.tmps[89]?.getD undef = .agg #[.string ⟨#[103, 105, 100]⟩, .string (decTextv g)] := by rw [← Array.getD_eq_getD_getElem?]; exact e89
                    refine op_val (.slice (some ⟨w2.heap.size, 0, none⟩) 1 1) (w' := w2.alloc (.cells #[.string ⟨#[103, 105, 100]⟩, .string (decTextv g)] 44)) ?_ (hC.alloc hC.size _) ((Below.refl _ _).alloc (Nat.le_refl _) _) ?_
                    · (clear hV hI hC; go_simp <;> (first | rfl | simp))
                    · intro d hd; cases hd; exact ⟨w2.heap.size, rfl, hC.size, heap_alloc_lastN _ _⟩
                case hendg =>
                  intro f w8 hC hall
                  simp only [List.take_succ_cons, List.take_zero, List.drop_succ_cons, List.drop_zero] at hall ⊢
                  simp only [List.forall_mem_cons] at hall
                  obtain ⟨h81, h82, h83, h84, h85, h86, h87, h88, h89, h90, _⟩ := hall
                  replace h81 : f 81 = .slice (some ⟨gl, 0, none⟩) L3.length cl := h81 81 rfl
                  replace h82 : f 82 = .pointer (some ⟨gn, 0, none⟩) := h82 82 rfl
                  replace h83 : f 83 = .string ⟨#[103, 105, 100]⟩ := h83 83 rfl
                  replace h84 : f 84 = .pointer (some ⟨gn, 2, none⟩) := h84 84 rfl
                  replace h85 : f 85 = .pointer (some ⟨w.heap.size, 5, none⟩) := h85 85 rfl
                  replace h86 : f 86 = .pointer (some ⟨w.heap.size, 5, none⟩) := h86 86 rfl
                  replace h87 : f 87 = .int .i64 g := h87 87 rfl
                  replace h88 : f 88 = .string (decTextv g) := h88 88 rfl
                  replace h89 : f 89 = .agg #[.string ⟨#[103, 105, 100]⟩, .string (decTextv g)] := h89 89 rfl
                  obtain ⟨G, hG, hGB, hGO⟩ : ∃ G, f 90 = .slice (some ⟨G, 0, none⟩) 1 1 ∧ w5.heap.size ≤ G ∧ w8.heap[G]? = some (.cells #[.string ⟨#[103, 105, 100]⟩, .string (decTextv g)] 44 (0, 0)) := h90 90 rfl
                  simp only [putAll, Act.put, List.setIfInBounds_toArray, List.set_cons_succ, List.set_cons_zero, h81, h82, h83, h84, h85, h86, h87, h88, h89, hG]
                  clear h81 h82 h83 h84 h85 h86 h87 h88 h89 hG
                  have S8 := Lib.hid (ST.out.below hC)
                  have N8 := Lib.hid ((hC.block gn (Array.getElem?_eq_some_iff.1 HNd.out).1).trans HNd.out)
                  have OW := Lib.hid S8.out.1.1
                  have zB := S8.out.2.2.2.size
                  clear ST HNd KC hC
                  go_wp2_with (at_builtin; refine wpList_append_own _ rfl _ _ 26 rfl w.heap.size 44 i0 (.agg #[.string ⟨#[]⟩, .string ⟨#[]⟩]) 2 32 Tryd.underlying26 hi0 hz0 hz1 hz2 rfl (by decide) _ L3.length (valsR L3) rfl ?c0r1 ⟨G, 0, none⟩ 1 1 (valsR [(⟨kGid, decTextv g⟩ : Rec)]) rfl (valsR_len _) ?c1r1 ?c2r1 ?c3r1 ?c4r1 ?c5r1 ?_)
                  case c0r1 => exact OW.out
                  case c1r1 => intro jj uu hu; rw [valsR_one] at hu; exact rowN hGO jj uu hu
                  case c2r1 => exact valsR_onecell _
                  any_goals (first | (simp only [maxLen]; omega) | omega | (simp; omega))
                  intro v' w6 hown hgrow hnil
                  have S6 := Lib.hid (I1.app2 S8.out hown hgrow hnil)
                  have N6 := Lib.hid ((hgrow.block gn (Array.getElem?_eq_some_iff.1 N8.out).1 (own_neT S8.out.1.1 N8.out (by decide))).trans N8.out)
                  clear S8 N8 OW hown hgrow hnil hGO
                  have n2 : w6.cell? ⟨gn, 2, none⟩ = some (.pointer (some ⟨w.heap.size, 5, none⟩)) := by simp [World.cell?, N6.out]
                  obtain ⟨ol, xa, xf, ze2⟩ := S6.out.ok
                  obtain ⟨d0, d1, d2, d3, d4, d5, d6, d7, d8, d9⟩ := xa.zero
                  have f9 := xf 5
                  clear ol xa xf
                  go_wp2_with fail
                  go_meet
                  case rel => rw [HN0.out, HL0.out]; exact ⟨rfl, rfl, S6.out.store 5 (.int .i64 0) rfl⟩
              · have hn : g4 = g := by rw [HB1.out, if_neg hq]
                have hL : L4 = L3 := by rw [HB2.out, if_neg hq]
                clear HB1 HB2 HE HL
                go_wp2_with fail
                go_meet
                case rel => rw [hn, hL]; exact ⟨rfl, rfl, ST.out⟩
            case rest =>
              obtain ⟨h70, h71, hI⟩ := hcut
              subst h70 h71
              clear ST HB1 HB2
              have ST := Lib.hid hI
              clear hI
              obtain ⟨gl, cl, hvl, _, _, _, _⟩ := ST.out.1.open
              subst hvl
              go_wp2_with fail
              rw [rounds_succ]
              have HB1 : Hid (bn 8589934591 t = if 8589934591 < t then 0 else t) := Lib.hid rfl
              have HB2 : Hid (bnL kTime 8589934591 t L4 = if 8589934591 < t then L4 ++ [⟨kTime, decTextv t⟩] else L4) := Lib.hid rfl
              have hl5 := bnL_len kTime 8589934591 t L4
              generalize bn 8589934591 t = t5 at HB1 HE ⊢
              generalize bnL kTime 8589934591 t L4 = L5 at HB2 HL hl5 ⊢
              go_upto_block 1 with fail
              go_cut [4, 70, 71] (fun v v70 v71 wx => v70 = .agg #[.string ⟨#[117, 105, 100]⟩, .int .i64 2097151, .pointer (some ⟨w.heap.size, 4, none⟩), .string ⟨#[103, 105, 100]⟩, .int .i64 2097151, .pointer (some ⟨w.heap.size, 5, none⟩), .string ⟨#[109, 116, 105, 109, 101]⟩, .int .i64 8589934591, .pointer (some ⟨w.heap.size, 6, none⟩)] ∧ v71 = .int .i64 2 ∧ I1 w wx v L5 ⟨k, p1, l2, m, u3, g4, t5, us, gr, b⟩)
              case first =>
                go_upto_region 16 with fail
                have STb := Lib.hid (ST.out.below ((Below.refl _ _).alloc (o := .cells #[.string ⟨#[109, 116, 105, 109, 101]⟩, .int .i64 8589934591, .pointer (some ⟨w.heap.size, 6, none⟩)] 50) (Nat.le_refl _)))
                have NB := heap_alloc_lastN wc (.cells #[.string ⟨#[109, 116, 105, 109, 101]⟩, .int .i64 8589934591, .pointer (some ⟨w.heap.size, 6, none⟩)] 50)
                generalize wc.alloc (.cells #[.string ⟨#[109, 116, 105, 109, 101]⟩, .int .i64 8589934591, .pointer (some ⟨w.heap.size, 6, none⟩)] 50) = w4 at *
                generalize wc.heap.size = gn at *
                have HNB := Lib.hid NB
                have n0 : w4.cell? ⟨gn, 0, none⟩ = some (.string ⟨#[109, 116, 105, 109, 101]⟩) := by simp [World.cell?, NB]
                have n1 : w4.cell? ⟨gn, 1, none⟩ = some (.int .i64 8589934591) := by simp [World.cell?, NB]
                have n2 : w4.cell? ⟨gn, 2, none⟩ = some (.pointer (some ⟨w.heap.size, 6, none⟩)) := by simp [World.cell?, NB]
                clear NB ST
                have ST := STb
                clear STb
                obtain ⟨ol, xa, xf, ze1⟩ := ST.out.ok
                have OW := Lib.hid ol.1
                obtain ⟨d0, d1, d2, d3, d4, d5, d6, d7, d8, d9⟩ := xa.zero
                have f1 := xf 1
                have f2 := xf 2
                have f4 := xf 4
                have f5 := xf 5
                have f6 := xf 6
                have zB := ST.out.2.2.2.size
                clear ol xa xf
                go_region
                have STd : Hid (I1 w w4.drew (.slice (some ⟨gl, 0, none⟩) L4.length cl) L4 ⟨k, p1, l2, m, u3, g4, t, us, gr, b⟩) := Lib.hid ⟨ST.out.1, ST.out.2.1, ST.out.2.2.1, ST.out.2.2.2.drew⟩
                have HNd : Hid (w4.drew.heap[gn]? = some (.cells #[.string ⟨#[109, 116, 105, 109, 101]⟩, .int .i64 8589934591, .pointer (some ⟨w.heap.size, 6, none⟩)] 50 (0, 0))) := Lib.hid HNB.out
                clear ST HNB OW n0 n1 n2 d0 d1 d2 d3 d4 d5 d6 d7 d8 d9 f1 f2 f4 f5 f6 ze1 zB
                generalize w4.drew = w5 at *
                have ST := STd
                clear STd
                by_cases hq : 8589934591 < t
                · have hn : t5 = 0 := by rw [HB1.out, if_pos hq]
                  have hL : L5 = L4 ++ [⟨kTime, decTextv t⟩] := by rw [HB2.out, if_pos hq]
                  have HN0 := Lib.hid hn
                  have HL0 := Lib.hid hL
                  clear HB1 HB2 HE HL hn hL
                  have B9 := Lib.hid ST.out.2.2.2
                  have KC : Hid (∀ w', Below w5.heap.size w5 w' → w'.cell? ⟨gn, 0, none⟩ = some (.string ⟨#[109, 116, 105, 109, 101]⟩) ∧ w'.cell? ⟨gn, 2, none⟩ = some (.pointer (some ⟨w.heap.size, 6, none⟩)) ∧ w'.cell? ⟨w.heap.size, 6, none⟩ = some (.int .i64 t)) := Lib.hid (fun w' hb => by
                    have h1 := (hb.block gn (Array.getElem?_eq_some_iff.1 HNd.out).1).trans HNd.out
                    have h2 := (ST.out.2.1.below hb ST.out.2.1.lt).at 6 (by omega)
                    exact ⟨by simp [World.cell?, h1], by simp [World.cell?, h1], h2⟩)
                  go_upto_region 17 with fail
                  refine wp_region_cut 10 (by kernel_rfl) (fun w' => Below w5.heap.size w5 w') (fun x y => Below x.heap.size x y) (vSl w5.heap.size #[.string ⟨#[109, 116, 105, 109, 101]⟩, .string (decTextv t)] (fun d v => match d with | 81 => v = .slice (some ⟨gl, 0, none⟩) L4.length cl | 82 => v = .pointer (some ⟨gn, 0, none⟩) | 83 => v = .string ⟨#[109, 116, 105, 109, 101]⟩ | 84 => v = .pointer (some ⟨gn, 2, none⟩) | 85 => v = .pointer (some ⟨w.heap.size, 6, none⟩) | 86 => v = .pointer (some ⟨w.heap.size, 6, none⟩) | 87 => v = .int .i64 t | 88 => v = .string (decTextv t) | 89 => v = .agg #[.string ⟨#[109, 116, 105, 109, 101]⟩, .string (decTextv t)] | _ => True)) (by kernel_rfl) (by kernel_rfl) ((Below.refl _ _).drew) (vSl_keep _ _ _) (by simp) ?hopst ?hendt
                  case hopst =>
                    simp only [List.take_succ_cons, List.take_zero, List.forall_mem_cons]
                    refine ⟨?ot81, ?ot82, ?ot83, ?ot84, ?ot85, ?ot86, ?ot87, ?ot88, ?ot89, ?ot90, fun _ h => by cases h⟩
                    case ot81 =>
                      intro Q a w2 hC hV hI
                      have e4 : a.eval (.tmp 4) = .slice (some ⟨gl, 0, none⟩) L4.length cl := (hI 4 (by simp [Op.operands]) (by kernel_rfl)).trans rfl
                      have f4 : a.tmps.getD 4 undef = .slice (some ⟨gl, 0, none⟩) L4.length cl := e4
                      have g4 : a.tmps[4]?.getD undef = .slice (some ⟨gl, 0, none⟩) L4.length cl := by rw [← Array.getD_eq_getD_getElem?]; exact e4
                      refine op_val (.slice (some ⟨gl, 0, none⟩) L4.length cl) ?_ hC (Below.refl _ _) (by intro d hd; cases hd; exact rfl)
                      (clear hV hI hC; go_simp <;> (first | rfl | simp))
                    case ot82 =>
                      intro Q a w2 hC hV hI
                      have e10 : a.eval (.tmp 10) = .pointer (some ⟨gn, 0, none⟩) := (hI 10 (by simp [Op.operands]) (by kernel_rfl)).trans rfl
                      have f10 : a.tmps.getD 10 undef = .pointer (some ⟨gn, 0, none⟩) := e10
                      have g10 : a.tmps[10]?.getD undef = .pointer (some ⟨gn, 0, none⟩) := by rw [← Array.getD_eq_getD_getElem?]; exact e10
                      refine op_val (.pointer (some ⟨gn, 0, none⟩)) ?_ hC (Below.refl _ _) (by intro d hd; cases hd; exact rfl)
                      (clear hV hI hC; go_simp <;> (first | rfl | simp))
                    case ot83 =>
                      intro Q a w2 hC hV hI
                      have e82 : a.eval (.tmp 82) = .pointer (some ⟨gn, 0, none⟩) := hV 82 (by simp [Op.operands]) (by kernel_rfl)
                      have f82 : a.tmps.getD 82 undef = .pointer (some ⟨gn, 0, none⟩) := e82
                      have g82 : a.tmps[82]?.getD undef = .pointer (some ⟨gn, 0, none⟩) := by rw [← Array.getD_eq_getD_getElem?]; exact e82
                      obtain ⟨k0, k2, k4⟩ := KC.out w2 hC
                      refine op_val (.string ⟨#[109, 116, 105, 109, 101]⟩) ?_ hC (Below.refl _ _) (by intro d hd; cases hd; exact rfl)
                      (clear hV hI hC; go_simp <;> (first | rfl | simp))
                    case ot84 =>
                      intro Q a w2 hC hV hI
                      have e10 : a.eval (.tmp 10) = .pointer (some ⟨gn, 0, none⟩) := (hI 10 (by simp [Op.operands]) (by kernel_rfl)).trans rfl
                      have f10 : a.tmps.getD 10 undef = .pointer (some ⟨gn, 0, none⟩) := e10
                      have g10 : a.tmps[10]?.getD undef = .pointer (some ⟨gn, 0, none⟩) := by rw [← Array.getD_eq_getD_getElem?]; exact e10
                      refine op_val (.pointer (some ⟨gn, 2, none⟩)) ?_ hC (Below.refl _ _) (by intro d hd; cases hd; exact rfl)
                      (clear hV hI hC; go_simp <;> (first | rfl | simp))
                    case ot85 =>
                      intro Q a w2 hC hV hI
                      have e84 : a.eval (.tmp 84) = .pointer (some ⟨gn, 2, none⟩) := hV 84 (by simp [Op.operands]) (by kernel_rfl)
                      have f84 : a.tmps.getD 84 undef = .pointer (some ⟨gn, 2, none⟩) := e84
                      have g84 : a.tmps[84]?.getD undef = .pointer (some ⟨gn, 2, none⟩) := by rw [← Array.getD_eq_getD_getElem?]; exact e84
                      obtain ⟨k0, k2, k4⟩ := KC.out w2 hC
                      refine op_val (.pointer (some ⟨w.heap.size, 6, none⟩)) ?_ hC (Below.refl _ _) (by intro d hd; cases hd; exact rfl)
                      (clear hV hI hC; go_simp <;> (first | rfl | simp))
                    case ot86 =>
                      intro Q a w2 hC hV hI
                      have e85 : a.eval (.tmp 85) = .pointer (some ⟨w.heap.size, 6, none⟩) := hV 85 (by simp [Op.operands]) (by kernel_rfl)
                      have f85 : a.tmps.getD 85 undef = .pointer (some ⟨w.heap.size, 6, none⟩) := e85
                      have g85 : a.tmps[85]?.getD undef = .pointer (some ⟨w.heap.size, 6, none⟩) := by rw [← Array.getD_eq_getD_getElem?]; exact e85
                      refine op_val (.pointer (some ⟨w.heap.size, 6, none⟩)) ?_ hC (Below.refl _ _) (by intro d hd; cases hd; exact rfl)
                      (clear hV hI hC; go_simp <;> (first | rfl | simp))
                    case ot87 =>
                      intro Q a w2 hC hV hI
                      have e86 : a.eval (.tmp 86) = .pointer (some ⟨w.heap.size, 6, none⟩) := hV 86 (by simp [Op.operands]) (by kernel_rfl)
                      have f86 : a.tmps.getD 86 undef = .pointer (some ⟨w.heap.size, 6, none⟩) := e86
                      have g86 : a.tmps[86]?.getD undef = .pointer (some ⟨w.heap.size, 6, none⟩) := by rw [← Array.getD_eq_getD_getElem?]; exact e86
                      obtain ⟨k0, k2, k4⟩ := KC.out w2 hC
                      refine op_val (.int .i64 t) ?_ hC (Below.refl _ _) (by intro d hd; cases hd; exact rfl)
                      (clear hV hI hC; go_simp <;> (first | rfl | simp))
                    case ot88 =>
                      intro Q a w2 hC hV hI
                      have e87 : a.eval (.tmp 87) = .int .i64 t := hV 87 (by simp [Op.operands, Call.operands]) (by kernel_rfl)
                      have f87 : a.tmps.getD 87 undef = .int .i64 t := e87
                      have g87 : a.tmps[87]?.getD undef = .int .i64 t := by rw [← Array.getD_eq_getD_getElem?]; exact e87
                      refine op_call (f := 27) (args := #[.int .i64 t]) (R := fun v y => v = .string (decTextv t) ∧ Below w2.heap.size w2 y) ?_ ((decText_impl t ht0 ht1 w2 (Lib.tabBelow_of_tabIs HT.out _ (B9.out.trans (hC.mono B9.out.size)))).mono ?_) ?_
                      · (clear hV hI hC; go_simp <;> (first | rfl | simp))
                      · rintro e y ⟨rfl, hb⟩; exact ⟨_, rfl, rfl, hb⟩
                      · rintro v y ⟨rfl, hb⟩; exact ⟨hC.trans (hb.mono hC.size), hb, by intro d hd; cases hd; exact rfl⟩
                    case ot89 =>
                      intro Q a w2 hC hV hI
                      have e83 : a.eval (.tmp 83) = .string ⟨#[109, 116, 105, 109, 101]⟩ := hV 83 (by simp [Op.operands]) (by kernel_rfl)
                      have f83 : a.tmps.getD 83 undef = .string ⟨#[109, 116, 105, 109, 101]⟩ := e83
                      have g83 : a.tmps[83]?.getD undef = .string ⟨#[109, 116, 105, 109, 101]⟩ := by rw [← Array.getD_eq_getD_getElem?]; exact e83
                      have e88 : a.eval (.tmp 88) = .string (decTextv t) := hV 88 (by simp [Op.operands]) (by kernel_rfl)
                      have f88 : a.tmps.getD 88 undef = .string (decTextv t) := e88
                      have g88 : a.tmps[88]?.getD undef = .string (decTextv t) := by rw [← Array.getD_eq_getD_getElem?]; exact e88
                      refine op_val (.agg #[.string ⟨#[109, 116, 105, 109, 101]⟩, .string (decTextv t)]) ?_ hC (Below.refl _ _) (by intro d hd; cases hd; exact rfl)
                      (clear hV hI hC; go_simp <;> (first | rfl | simp))
                    case ot90 =>
                      intro Q a w2 hC hV hI
                      have e89 : a.eval (.tmp 89) = .agg #[.string ⟨#[109, 116, 105, 109, 101]⟩, .string (decTextv t)] := hV 89 (by simp [Op.operands]) (by kernel_rfl)
                      have f89 : a.tmps.getD 89 undef = .agg #[.string ⟨#[109, 116, 105, 109, 101]⟩, .string (decTextv t)] := e89
                      have g89 : a.tmps[89]?.getD undef = .agg #[.string ⟨#[109, 116, 105, 109, 101]⟩, .string (decTextv t)] := by rw [← Array.getD_eq_getD_getElem?]; exact e89
                      refine op_val (.slice (some ⟨w2.heap.size, 0, none⟩) 1 1) (w' := w2.alloc (.cells #[.string ⟨#[109, 116, 105, 109, 101]⟩, .string (decTextv t)] 44)) ?_ (hC.alloc hC.size _) ((Below.refl _ _).alloc (Nat.le_refl _) _) ?_
                      · (clear hV hI hC; go_simp <;> (first | rfl | simp))
                      · intro d hd; cases hd; exact ⟨w2.heap.size, rfl, hC.size, heap_alloc_lastN _ _⟩
                  case hendt =>
                    intro f w8 hC hall
                    simp only [List.take_succ_cons, List.take_zero, List.drop_succ_cons, List.drop_zero] at hall ⊢
                    simp only [List.forall_mem_cons] at hall
                    obtain ⟨h81, h82, h83, h84, h85, h86, h87, h88, h89, h90, _⟩ := hall
                    replace h81 : f 81 = .slice (some ⟨gl, 0, none⟩) L4.length cl := h81 81 rfl
                    replace h82 : f 82 = .pointer (some ⟨gn, 0, none⟩) := h82 82 rfl
                    replace h83 : f 83 = .string ⟨#[109, 116, 105, 109, 101]⟩ := h83 83 rfl
                    replace h84 : f 84 = .pointer (some ⟨gn, 2, none⟩) := h84 84 rfl
                    replace h85 : f 85 = .pointer (some ⟨w.heap.size, 6, none⟩) := h85 85 rfl
                    replace h86 : f 86 = .pointer (some ⟨w.heap.size, 6, none⟩) := h86 86 rfl
                    replace h87 : f 87 = .int .i64 t := h87 87 rfl
                    replace h88 : f 88 = .string (decTextv t) := h88 88 rfl
                    replace h89 : f 89 = .agg #[.string ⟨#[109, 116, 105, 109, 101]⟩, .string (decTextv t)] := h89 89 rfl
                    obtain ⟨G, hG, hGB, hGO⟩ : ∃ G, f 90 = .slice (some ⟨G, 0, none⟩) 1 1 ∧ w5.heap.size ≤ G ∧ w8.heap[G]? = some (.cells #[.string ⟨#[109, 116, 105, 109, 101]⟩, .string (decTextv t)] 44 (0, 0)) := h90 90 rfl
                    simp only [putAll, Act.put, List.setIfInBounds_toArray, List.set_cons_succ, List.set_cons_zero, h81, h82, h83, h84, h85, h86, h87, h88, h89, hG]
                    clear h81 h82 h83 h84 h85 h86 h87 h88 h89 hG
                    have S8 := Lib.hid (ST.out.below hC)
                    have N8 := Lib.hid ((hC.block gn (Array.getElem?_eq_some_iff.1 HNd.out).1).trans HNd.out)
                    have OW := Lib.hid S8.out.1.1
                    have zB := S8.out.2.2.2.size
                    clear ST HNd KC hC
                    go_wp2_with (at_builtin; refine wpList_append_own _ rfl _ _ 26 rfl w.heap.size 44 i0 (.agg #[.string ⟨#[]⟩, .string ⟨#[]⟩]) 2 32 Tryd.underlying26 hi0 hz0 hz1 hz2 rfl (by decide) _ L4.length (valsR L4) rfl ?c0r2 ⟨G, 0, none⟩ 1 1 (valsR [(⟨kTime, decTextv t⟩ : Rec)]) rfl (valsR_len _) ?c1r2 ?c2r2 ?c3r2 ?c4r2 ?c5r2 ?_)
                    case c0r2 => exact OW.out
                    case c1r2 => intro jj uu hu; rw [valsR_one] at hu; exact rowN hGO jj uu hu
                    case c2r2 => exact valsR_onecell _
                    any_goals (first | (simp only [maxLen]; omega) | omega | (simp; omega))
                    intro v' w6 hown hgrow hnil
                    have S6 := Lib.hid (I1.app2 S8.out hown hgrow hnil)
                    have N6 := Lib.hid ((hgrow.block gn (Array.getElem?_eq_some_iff.1 N8.out).1 (own_neT S8.out.1.1 N8.out (by decide))).trans N8.out)
                    clear S8 N8 OW hown hgrow hnil hGO
                    have n2 : w6.cell? ⟨gn, 2, none⟩ = some (.pointer (some ⟨w.heap.size, 6, none⟩)) := by simp [World.cell?, N6.out]
                    obtain ⟨ol, xa, xf, ze2⟩ := S6.out.ok
                    obtain ⟨d0, d1, d2, d3, d4, d5, d6, d7, d8, d9⟩ := xa.zero
                    have f9 := xf 6
                    clear ol xa xf
                    go_wp2_with fail
                    go_meet
                    case rel => rw [HN0.out, HL0.out]; exact ⟨rfl, rfl, S6.out.store 6 (.int .i64 0) rfl⟩
                · have hn : t5 = t := by rw [HB1.out, if_neg hq]
                  have hL : L5 = L4 := by rw [HB2.out, if_neg hq]
                  clear HB1 HB2 HE HL
                  go_wp2_with fail
                  go_meet
                  case rel => rw [hn, hL]; exact ⟨rfl, rfl, ST.out⟩
              case rest =>
                obtain ⟨h70, h71, hI⟩ := hcut
                subst h70 h71
                clear ST HB1 HB2
                have ST := Lib.hid hI
                clear hI
                obtain ⟨gl, cl, hvl, _, _, _, _⟩ := ST.out.1.open
                subst hvl
                go_wp2_with fail
                rw [rounds_succ]
                obtain ⟨o, a, c, d⟩ := ST.out
                have OL := Lib.hid o
                have RO := Lib.hid c
                have B := Lib.hid d
                obtain ⟨x0, x1, x2, x3, x4, x5, x6, x7, x8, x9⟩ := a.at.zero
                obtain ⟨d0, d1, d2, d3, d4, d5, d6, d7, d8, d9⟩ := RO.out.at.zero
                have f0 := RO.out.fz 0
                have f1 := RO.out.fz 1
                have f2 := RO.out.fz 2
                have f3 := RO.out.fz 3
                have f4 := RO.out.fz 4
                have f5 := RO.out.fz 5
                have f6 := RO.out.fz 6
                have f7 := RO.out.fz 7
                have f8 := RO.out.fz 8
                have f9 := RO.out.fz 9
                have hne := own_neE o.1 c
                clear o a c d ST
                have HF : Hid (rE = ⟨k, p1, l2, m, u3, g4, t5, us, gr, b⟩) := Lib.hid HE.out
                have HG : Hid (rL = L5) := Lib.hid HL.out
                clear HE HL
                go_wp2_with fail
                have RP := RO.out.put ⟨k, p1, l2, m, u3, g4, t5, us, gr, b⟩
                have BP := below_putE (g := w.heap.size + 1) B.out (by omega) ⟨k, p1, l2, m, u3, g4, t5, us, gr, b⟩
                have OP := OwnR.kept (w' := putE wc (w.heap.size + 1) ⟨k, p1, l2, m, u3, g4, t5, us, gr, b⟩) OL.out (row := some (w.heap.size + 1)) (grown_putE wc _ _) (fun e => hne (by rw [← e]; rfl))
                simp only [putE] at RP BP OP
                refine bodyPost_ret (res_ent2 rfl _ rfl RP) rfl ?_
                exact ⟨⟨_, by rw [HF.out], by rw [HG.out]; exact OP⟩, BP⟩
end Go.Proofs.YtlbanaakjabfnabDoor
