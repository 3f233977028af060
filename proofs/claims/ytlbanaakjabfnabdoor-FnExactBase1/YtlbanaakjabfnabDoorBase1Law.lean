/- The law laws.FnExactBase1 returns true. -/
import Derived.Test.YtlbanaakjabfnabDoorBase1I
import Derived.Test.YtlbanaakjabfnabDoorRecM
import Derived.Test.YtlbanaakjabfnabDoorEntEq
namespace Go.Proofs.YtlbanaakjabfnabDoor
open Go.ChangeShapes Go.WideShapes Go.ChangeAt Go.RowKit Go.Deep

theorem EntAt.grownL {w w' : World} {b : Nat} {row : Option Nat} {e : Ent} (h : EntAt w b 0 e) (hb : w.grownBy w' row) (hne : some b ≠ row) : EntAt w' b 0 e := fun i hi => by
  have h1 := h i hi
  rw [List.getElem?_eq_getElem (show i < e.cells.length from hi)] at h1 ⊢
  exact hb.cell h1 hne
theorem base1L_len (e : Ent) : (base1L e).length ≤ 5 := by
  unfold base1L
  split
  · have h1 := b1L_len e.path
    have h2 := b2L_len e.kind (b1p e.path) e.link (b1L e.path)
    have h3 := bnL_len kUid 2097151 e.uid (b2L e.kind (b1p e.path) e.link (b1L e.path))
    have h4 := bnL_len kGid 2097151 e.gid (bnL kUid 2097151 e.uid (b2L e.kind (b1p e.path) e.link (b1L e.path)))
    have h5 := bnL_len kTime 8589934591 e.time (bnL kGid 2097151 e.gid (bnL kUid 2097151 e.uid (b2L e.kind (b1p e.path) e.link (b1L e.path))))
    omega
  · simp
set_option maxHeartbeats 3200000 in
set_option maxRecDepth 8000 in
theorem base1_law (k : Int) (p l : ByteArray) (m u g t : Int) (us gr b : ByteArray) (w : World) (hv0 : p.size ≤ maxLen) (hv1 : l.size ≤ maxLen) (hv2 : us.size ≤ maxLen) (hv3 : gr.size ≤ maxLen) (hv4 : b.size ≤ maxLen) (hu0 : -9223372036854775808 ≤ u) (hu1 : u ≤ 9223372036854775807) (hg0 : -9223372036854775808 ≤ g) (hg1 : g ≤ 9223372036854775807) (ht0 : -9223372036854775808 ≤ t) (ht1 : t ≤ 9223372036854775807) (ht : Lib.TabIs Tryd.prog w "internal/strconv.uint64pow10" .u64 Lib.pow10Tab) :
    Calls Tryd.prog 3 #[.agg #[.int .i64 k, .string p, .string l, .int .i64 m, .int .i64 u, .int .i64 g, .int .i64 t, .string us, .string gr, .string b]] w fun e w' => e = .returned (.bool true) ∧ Below w.heap.size w w' := by
  have H1 := Lib.hid (fun w => szEntry_any k p l m u g t us gr b 1048576 w hv0 hv1 hv2 hv3 hv4 (by omega) (by omega))
  have HZ : Hid (0 ≤ szv p l us gr b 1048576 → p.size ≤ 1048576 ∧ l.size ≤ 1048576 ∧ us.size ≤ 1048576 ∧ gr.size ≤ 1048576 ∧ b.size ≤ 1048576) := Lib.hid (fun h => by unfold szv at h; split at h <;> omega)
  have T1 := Lib.hid (fun w => toEntry_any k p l m u g t us gr b w)
  have S1 := (fun w h0 h1 h2 h3 h4 => base1_spec k p l m u g t us gr b w h0 h1 h2 h3 h4 hu0 hu1 hg0 hg1 ht0 ht1)
  have S2 := (fun w h0 h1 h2 h3 h4 h => base1_impl k p l m u g t us gr b w h0 h1 h2 h3 h4 hu0 hu1 hg0 hg1 ht0 ht1 h)
  have hl := base1L_len ⟨k, p, l, m, u, g, t, us, gr, b⟩
  have HT := Lib.hid ht
  generalize szv p l us gr b 1048576 = r1 at H1 HZ
  generalize base1L ⟨k, p, l, m, u, g, t, us, gr, b⟩ = L at S1 S2 hl
  generalize base1E ⟨k, p, l, m, u, g, t, us, gr, b⟩ = rE at S1 S2
  obtain ⟨k2, p2, l2, m2, u2, g2, t2, us2, gr2, b2⟩ := rE
  have Q1 : Hid (∀ w, p.size ≤ 4194304 → l.size ≤ 4194304 → us.size ≤ 4194304 → gr.size ≤ 4194304 → b.size ≤ 4194304 → Calls Tryd.prog 6 #[.agg #[.int .i64 k, .string p, .string l, .int .i64 m, .int .i64 u, .int .i64 g, .int .i64 t, .string us, .string gr, .string b]] w fun e w' => (∃ v, e = .returned (.tuple #[.agg #[.int .i64 k2, .string p2, .string l2, .int .i64 m2, .int .i64 u2, .int .i64 g2, .int .i64 t2, .string us2, .string gr2, .string b2], v]) ∧ OwnR w' w.heap.size v L) ∧ Below w.heap.size w w') := Lib.hid S1
  have Q2 : Hid (∀ w, p.size ≤ 4194304 → l.size ≤ 4194304 → us.size ≤ 4194304 → gr.size ≤ 4194304 → b.size ≤ 4194304 → Lib.TabIs Tryd.prog w "internal/strconv.uint64pow10" .u64 Lib.pow10Tab → Calls Tryd.prog 8 #[.agg #[.int .i64 k, .string p, .string l, .int .i64 m, .int .i64 u, .int .i64 g, .int .i64 t, .string us, .string gr, .string b]] w fun e w' => (∃ v, e = .returned (.tuple #[.agg #[.int .i64 k2, .string p2, .string l2, .int .i64 m2, .int .i64 u2, .int .i64 g2, .int .i64 t2, .string us2, .string gr2, .string b2], v]) ∧ OwnR w' w.heap.size v L) ∧ Below w.heap.size w w') := Lib.hid S2
  clear S1 S2 ht hv0 hv1 hv2 hv3 hv4 hu0 hu1 hg0 hg1 ht0 ht1
  have HQE := Lib.hid (fun w => eqEntry_self k2 p2 l2 m2 u2 g2 t2 us2 gr2 b2 w)
  have HQ := Lib.hid (fun g g2 ca cb w hg hg2 h1 h2 => eqRecS_any L L.length g g2 ca cb w rfl (by omega) hg hg2 h1 h2)
  have HM := Lib.hid (fun g cap base xs w h => markRecS_any L.length g cap 1 base xs w (by omega) (by omega) h)
  have HH := Lib.hid (fun g cap w hg h => heldRecS_any L.length g cap 1 w (by omega) (by omega) hg h)
  go_enter Tryd.func3, Tryd.ntmps3
  go_wp2_with fail
  refine (H1.out _).mono ?_
  rintro e w1 ⟨rfl, hb1⟩
  obtain ⟨k1, b1, z1⟩ := one_new (e1 := ⟨k, p, l, m, u, g, t, us, gr, b⟩) hb1
  have E := Lib.hid k1
  have B := Lib.hid b1
  clear hb1 b1 k1 H1
  obtain ⟨a0, a1, a2, a3, a4, a5, a6, a7, a8, a9⟩ := E.out.zero
  by_cases q1 : r1 < 0
  · go_wp2_with fail
    go_ret
    exact ⟨rfl, B.out⟩
  obtain ⟨s0, s1, s2, s3, s4⟩ := HZ.out (by omega)
  have S1 := Lib.hid (fun w => Q1.out w (by omega) (by omega) (by omega) (by omega) (by omega))
  have S2 := Lib.hid (fun w h => Q2.out w (by omega) (by omega) (by omega) (by omega) (by omega) h)
  clear Q1 Q2 HZ s0 s1 s2 s3 s4
  go_wp2_with fail
  refine (T1.out _).mono ?_
  rintro e w2 ⟨rfl, hb⟩
  have zsw2 := hb.size
  replace E := Lib.hid (E.out.below hb (by omega))
  replace B := Lib.hid (btE B.out hb)
  clear hb a0 a1 a2 a3 a4 a5 a6 a7 a8 a9
  go_wp2_with fail
  refine (S1.out _).mono ?_
  rintro e w3 ⟨⟨v, rfl, ho⟩, hb⟩
  obtain ⟨gw, cw, rfl, hr, zw, _, _⟩ := ho.open
  have Rw := Lib.hid hr
  have zsw3 := hb.size
  replace E := Lib.hid (E.out.below hb (by omega))
  replace B := Lib.hid (btE B.out hb)
  clear ho hr hb
  have E3 : Hid (EntAt (w3.alloc (.cells #[.int .i64 k2, .string p2, .string l2, .int .i64 m2, .int .i64 u2, .int .i64 g2, .int .i64 t2, .string us2, .string gr2, .string b2] 25)) w.heap.size 0 ⟨k, p, l, m, u, g, t, us, gr, b⟩) := Lib.hid (E.out.below ((Below.refl w3.heap.size w3).alloc (Nat.le_refl _) _) (by omega))
  obtain ⟨a0, a1, a2, a3, a4, a5, a6, a7, a8, a9⟩ := E3.out.zero
  go_wp2_with fail
  refine (T1.out _).mono ?_
  rintro e w4 ⟨rfl, hb0⟩
  obtain ⟨k4, hb, z4⟩ := one_new (e1 := ⟨k2, p2, l2, m2, u2, g2, t2, us2, gr2, b2⟩) hb0
  have W0 := Lib.hid k4
  have zsw4 := hb.size
  replace E := Lib.hid (E.out.below hb (by omega))
  replace Rw := Lib.hid (Rw.out.below hb zw)
  replace zw := Nat.lt_of_lt_of_le zw hb.size
  replace B := Lib.hid (btE B.out hb)
  clear hb hb0 k4 E3 a0 a1 a2 a3 a4 a5 a6 a7 a8 a9
  go_wp2_with fail
  refine (S2.out _ (Lib.tabBelow_of_tabIs HT.out _ B.out)).mono ?_
  rintro e w5 ⟨⟨v, rfl, ho⟩, hb⟩
  obtain ⟨gg, cg, rfl, hr, zg, hgb, how⟩ := ho.open
  have Rg := Lib.hid hr
  have Og := Lib.hid how
  have hne : gw ≠ gg := by omega
  have zsw5 := hb.size
  replace E := Lib.hid (E.out.below hb (by omega))
  replace W0 := Lib.hid (W0.out.below hb (by omega))
  replace Rw := Lib.hid (Rw.out.below hb zw)
  replace zw := Nat.lt_of_lt_of_le zw hb.size
  replace B := Lib.hid (btE B.out hb)
  clear ho hr hb how
  have W5 : Hid (EntAt (w5.alloc (.cells #[.int .i64 k2, .string p2, .string l2, .int .i64 m2, .int .i64 u2, .int .i64 g2, .int .i64 t2, .string us2, .string gr2, .string b2] 25)) w3.heap.size 0 ⟨k2, p2, l2, m2, u2, g2, t2, us2, gr2, b2⟩) := Lib.hid (W0.out.below ((Below.refl w5.heap.size w5).alloc (Nat.le_refl _) _) (by omega))
  obtain ⟨c0, c1, c2, c3, c4, c5, c6, c7, c8, c9⟩ := W5.out.zero
  go_wp2_with fail
  refine (HQE.out _).mono ?_
  rintro e w6 ⟨rfl, hb0⟩
  obtain ⟨_, hb, z6⟩ := one_new (e1 := ⟨k2, p2, l2, m2, u2, g2, t2, us2, gr2, b2⟩) hb0
  have zsw6 := hb.size
  replace E := Lib.hid (E.out.below hb (by omega))
  replace W0 := Lib.hid (W0.out.below hb (by omega))
  replace Rw := Lib.hid (Rw.out.below hb zw)
  replace zw := Nat.lt_of_lt_of_le zw hb.size
  replace Rg := Lib.hid (Rg.out.below hb zg)
  replace zg := Nat.lt_of_lt_of_le zg hb.size
  replace Og := Lib.hid (own_belowR Og.out hb)
  replace B := Lib.hid (btE B.out hb)
  clear hb hb0 W5 c0 c1 c2 c3 c4 c5 c6 c7 c8 c9
  go_wp2_with fail
  refine (HQ.out gg gw cg cw _ zg zw Rg.out Rw.out).mono ?_
  rintro e w7 ⟨rfl, hb⟩
  have zsw7 := hb.size
  replace zg := Nat.lt_of_lt_of_le zg hb.size
  replace E := Lib.hid (E.out.below hb (by omega))
  replace W0 := Lib.hid (W0.out.below hb (by omega))
  replace Rw := Lib.hid (Rw.out.below hb zw)
  replace zw := Nat.lt_of_lt_of_le zw hb.size
  replace Og := Lib.hid (own_belowR Og.out hb)
  replace B := Lib.hid (btE B.out hb)
  clear hb
  go_wp2_with fail
  refine (HM.out gg cg _ _ _ Og.out).mono ?_
  rintro e w8 ⟨rfl, _, hrm, hg⟩
  have zsw8 := hg.size
  replace B : Hid (Below w.heap.size w w8) := Lib.hid (B.out.grown hg B.out.size (fun k hk => by cases hk; omega))
  replace Rw := Lib.hid (Rw.out.grown hg (fun e => hne (Option.some.inj e)))
  replace E := Lib.hid (E.out.grownL hg (fun e => by have := Option.some.inj e; omega))
  replace W0 := Lib.hid (W0.out.grownL hg (fun e => by have := Option.some.inj e; omega))
  replace zw := Nat.lt_of_lt_of_le zw hg.size
  replace zg := Nat.lt_of_lt_of_le zg hg.size
  clear Rg
  have Rg := Lib.hid hrm
  clear hrm hg Og
  go_wp2_with fail
  refine (HH.out gg cg _ zg Rg.out).mono ?_
  rintro e w9 ⟨rfl, hb⟩
  have zsw9 := hb.size
  replace E := Lib.hid (E.out.below hb (by omega))
  replace W0 := Lib.hid (W0.out.below hb (by omega))
  replace Rw := Lib.hid (Rw.out.below hb zw)
  replace zw := Nat.lt_of_lt_of_le zw hb.size
  replace Rg := Lib.hid (Rg.out.below hb zg)
  replace zg := Nat.lt_of_lt_of_le zg hb.size
  replace B := Lib.hid (btE B.out hb)
  clear hb
  obtain ⟨a0, a1, a2, a3, a4, a5, a6, a7, a8, a9⟩ := E.out.zero
  go_wp2_with fail
  refine (T1.out _).mono ?_
  rintro e w10 ⟨rfl, hb⟩
  have zsw10 := hb.size
  replace E := Lib.hid (E.out.below hb (by omega))
  replace W0 := Lib.hid (W0.out.below hb (by omega))
  replace Rw := Lib.hid (Rw.out.below hb zw)
  replace zw := Nat.lt_of_lt_of_le zw hb.size
  replace Rg := Lib.hid (Rg.out.below hb zg)
  replace zg := Nat.lt_of_lt_of_le zg hb.size
  replace B := Lib.hid (btE B.out hb)
  clear hb a0 a1 a2 a3 a4 a5 a6 a7 a8 a9
  go_wp2_with fail
  refine (S2.out _ (Lib.tabBelow_of_tabIs HT.out _ B.out)).mono ?_
  rintro e w11 ⟨⟨v, rfl, ho⟩, hb⟩
  obtain ⟨gh, ch, rfl, hr, zh, _, _⟩ := ho.open
  have Rh := Lib.hid hr
  have zsw11 := hb.size
  replace W0 := Lib.hid (W0.out.below hb (by omega))
  replace Rw := Lib.hid (Rw.out.below hb zw)
  replace zw := Nat.lt_of_lt_of_le zw hb.size
  replace Rg := Lib.hid (Rg.out.below hb zg)
  replace zg := Nat.lt_of_lt_of_le zg hb.size
  replace B := Lib.hid (btE B.out hb)
  clear ho hr hb
  have W5 : Hid (EntAt (w11.alloc (.cells #[.int .i64 k2, .string p2, .string l2, .int .i64 m2, .int .i64 u2, .int .i64 g2, .int .i64 t2, .string us2, .string gr2, .string b2] 25)) w3.heap.size 0 ⟨k2, p2, l2, m2, u2, g2, t2, us2, gr2, b2⟩) := Lib.hid (W0.out.below ((Below.refl w11.heap.size w11).alloc (Nat.le_refl _) _) (by omega))
  obtain ⟨c0, c1, c2, c3, c4, c5, c6, c7, c8, c9⟩ := W5.out.zero
  go_wp2_with fail
  refine (HQE.out _).mono ?_
  rintro e w12 ⟨rfl, hb0⟩
  obtain ⟨_, hb, z12⟩ := one_new (e1 := ⟨k2, p2, l2, m2, u2, g2, t2, us2, gr2, b2⟩) hb0
  have zsw12 := hb.size
  replace Rw := Lib.hid (Rw.out.below hb zw)
  replace zw := Nat.lt_of_lt_of_le zw hb.size
  replace Rg := Lib.hid (Rg.out.below hb zg)
  replace zg := Nat.lt_of_lt_of_le zg hb.size
  replace Rh := Lib.hid (Rh.out.below hb zh)
  replace zh := Nat.lt_of_lt_of_le zh hb.size
  replace B := Lib.hid (btE B.out hb)
  clear hb hb0 W5 c0 c1 c2 c3 c4 c5 c6 c7 c8 c9
  go_wp2_with fail
  refine (HQ.out gh gw ch cw _ zh zw Rh.out Rw.out).mono ?_
  rintro e w13 ⟨rfl, hb⟩
  have zsw13 := hb.size
  replace Rg := Lib.hid (Rg.out.below hb zg)
  replace zg := Nat.lt_of_lt_of_le zg hb.size
  replace B := Lib.hid (btE B.out hb)
  clear hb
  go_wp2_with fail
  refine (HH.out gg cg _ zg Rg.out).mono ?_
  rintro e w14 ⟨rfl, hb⟩
  have zsw14 := hb.size
  replace B := Lib.hid (btE B.out hb)
  clear hb
  go_wp2_with fail
  go_ret
  exact ⟨rfl, B.out⟩
theorem base1_all (e : Ent) (w : World) (he : e.wf) (ht : Lib.TabIs Tryd.prog w "internal/strconv.uint64pow10" .u64 Lib.pow10Tab) :
    Calls Tryd.prog 3 #[.agg e.cells.toArray] w fun e w' => e = .returned (.bool true) ∧ Below w.heap.size w w' :=
  base1_law e.kind e.path e.link e.mode e.uid e.gid e.time e.user e.group e.body w he.2.1 he.2.2.1 he.2.2.2.1 he.2.2.2.2.1 he.2.2.2.2.2 he.1.2.2.1.1 he.1.2.2.1.2 he.1.2.2.2.1.1 he.1.2.2.2.1.2 he.1.2.2.2.2.1 he.1.2.2.2.2.2 ht
end Go.Proofs.YtlbanaakjabfnabDoor
