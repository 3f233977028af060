/- Contracts of cmp.Or and impl.EntryText. -/
import Derived.Test.YtlbkojiengofeabDoorEntTextS
import Derived.Test.YtlbkojiengofeabDoorEntOkI
import Derived.Test.YtlbkojiengofeabDoorOwnL
import Derived.Test.YtlbkojiengofeabDoorPartsS
import Derived.Test.YtlbkojiengofeabDoorShelf
namespace Go.Proofs.YtlbkojiengofeabDoor
open Go.ChangeShapes Go.WideShapes Go.ChangeAt Go.RowKit Go.Deep

theorem or_impl (s : ByteArray) (G : Nat) (w : World) (h0 : w.cell? ⟨G, 0, none⟩ = some (.string s)) (h1 : w.cell? ⟨G, 1, none⟩ = some (.string ⟨#[45]⟩)) :
    Calls Tryd.prog 21 #[.slice (some ⟨G, 0, none⟩) 2 2] w fun e w' => e = .returned (.string (orV s)) ∧ w = w' := by
  by_cases h : s.size = 0
  · have q := empty_t h
    have HE : Hid (orV s = ⟨#[45]⟩) := Lib.hid (by rw [orV, if_pos h])
    generalize orV s = r at HE
    clear h
    go_enter Tryd.func21, Tryd.ntmps21
    go_wp2_with fail
    go_loopw [5, 8] (fun _ u wr => ∃ i : Nat, u = .int .i64 i ∧ i < 2 ∧ w = wr) (fun _ u _ => 2 - (intOf u).toNat)
    case atStart => exact ⟨0, rfl, by omega, rfl⟩
    case round =>
      obtain ⟨i, rfl, hi, rfl⟩ := hrel
      match i, hi with
      | 0, _ =>
        go_wp2_with fail
        go_roundw
        case rel => exact ⟨1, by go_num, by omega, by first | rfl | trivial⟩
        case measure => simp [intOf]
      | 1, _ =>
        go_wp2_with fail
        go_ret
        exact ⟨ret_str HE.out.symm, rfl⟩
  · have q := empty_f h
    have HE : Hid (orV s = s) := Lib.hid (by rw [orV, if_neg h])
    generalize orV s = r at HE
    clear h
    go_enter Tryd.func21, Tryd.ntmps21
    go_wp2_with fail
    refine wp_loop_rounds 1 ?_
    rw [rounds_succ]
    go_wp2_with fail
    go_ret
    exact ⟨ret_str HE.out.symm, rfl⟩
theorem ownL_keep {w w' : World} {base : Nat} {v : Value} {L : List ByteArray} (h : OwnL w base v L) (hb : Below w.heap.size w w') : OwnL w' base v L :=
  ⟨World.ownsRow.kept h.1 (row := none) ⟨hb.os, hb.tape, hb.output, hb.size, fun k hk _ => hb.block k hk⟩ (by cases hv : v.ownBlock <;> simp), h.2⟩
theorem entText_words {e : Ent} (h : entOkv e = true) (hl : e.link.size = 0) : entTextv e = joinB (nineW e) := by
  rw [entTextv, if_pos h, linkW, if_pos hl, List.append_nil]
theorem entText_more {e : Ent} (h : entOkv e = true) (hl : ¬ e.link.size = 0) : entTextv e = joinB (nineW e ++ [⟨#[45, 62]⟩, e.link]) := by
  rw [entTextv, if_pos h, linkW, if_neg hl]
theorem join_len (xs : List ByteArray) : (Lib.join (xs.map (·.data.toList)) [32]).length = (joinB xs).size := by
  simp [joinB, ByteArray.size]
theorem joinS (xs : List ByteArray) (g c base : Nat) (w : World) (hs : (joinB xs).size ≤ 1000) (hx : xs.length ≤ 100) (h : w.ownsRow base 9 1 (.slice (some ⟨g, 0, none⟩) xs.length c) xs.length (strVals xs)) :
    Calls Tryd.prog 22 #[.slice (some ⟨g, 0, none⟩) xs.length c, .string ⟨#[32]⟩] w fun e w' => e = .returned (.string (joinB xs)) ∧ Below w.heap.size w w' := by
  have hc : ∀ (j : Nat) x, xs[j]? = some x → w.cell? ⟨g, 0 + j, none⟩ = some (.string x) := by
    intro j x hx
    have h2 := World.ownsRow.cells h (g := g) rfl j (.string x) (by simp [strVals, hx])
    rw [show (⟨g, 0, none⟩ : Addr).add j = ⟨g, 0 + j, none⟩ from by unfold Addr.add; split <;> simp_all] at h2
    exact h2
  have hcap : xs.length ≤ c ∧ xs.length ≤ maxLen := by
    rcases h.2 with ⟨h', _⟩ | ⟨g', cap', cur, h', _, _, hnc, hmx, _⟩
    · simp at h'
    · simp at h'; obtain ⟨_, rfl⟩ := h'; exact ⟨hnc, Nat.le_trans hnc hmx⟩
  have hl := join_len xs
  have hN : xs.length ≤ 140737488355328 := by omega
  exact Tryd.strings_Join g 0 c xs ⟨#[32]⟩ w hc (World.ownsRow.lt h g rfl).2 hN hcap.1 (by rw [hl]; omega)
theorem two_cells (w : World) (x y : ByteArray) (t : TypeId) : ∀ j u, ([Value.string x, .string y] : List Value)[j]? = some u → (w.alloc (.cells #[.string x, .string y] t)).cell? ((⟨w.heap.size, 0, none⟩ : Addr).add j) = some u := by
  intro j u hu
  rw [show (⟨w.heap.size, 0, none⟩ : Addr).add j = ⟨w.heap.size, j, none⟩ from by unfold Addr.add; split <;> simp_all, World.cell?_alloc_at _ _ _ _ rfl]
  match j with
  | 0 => simpa using hu
  | 1 => simpa using hu
  | j + 2 => simp at hu
theorem own_two {w1 : World} {base : Nat} {v' : Value} {D : List ByteArray} {x y : ByteArray} (h : w1.ownsRow base 9 1 v' (D.length + 2) (strVals D ++ [.string x, .string y])) (hnil : ¬ v' = .slice none 0 0) : OwnL w1 base v' (D ++ [x, y]) := by
  have e : strVals D ++ [.string x, .string y] = strVals (D ++ [x, y]) := by simp [strVals]
  rw [e, show D.length + 2 = (D ++ [x, y]).length from by simp] at h
  refine ⟨h, ?_⟩
  obtain ⟨_, ⟨rfl, _⟩ | ⟨g', cap', cur, rfl, _⟩⟩ := h
  · exact absurd rfl hnil
  · exact ⟨g', cap', rfl⟩
/-- What each operation that gathers the words leaves in its slot. -/
def wordV (E : Nat) (k k1 : Int) (kc p tm : ByteArray) (u g t : Int) (us gr b tu tg tt tus tgr tb : ByteArray) (base : Nat) : Nat → Value → World → Prop
  | 15 => fun v _ => v = .pointer (some ⟨E, 0, none⟩)
  | 16 => fun v _ => v = .int .i64 k
  | 17 => fun v _ => v = .pointer (some ⟨E, 0, none⟩)
  | 18 => fun v _ => v = .int .i64 k
  | 19 => fun v _ => v = .int .i64 k1
  | 20 => fun v _ => v = .string kc
  | 21 => fun v _ => v = .string tm
  | 22 => fun v _ => v = .pointer (some ⟨E, 4, none⟩)
  | 23 => fun v _ => v = .int .i64 u
  | 24 => fun v _ => v = .string tu
  | 25 => fun v _ => v = .pointer (some ⟨E, 5, none⟩)
  | 26 => fun v _ => v = .int .i64 g
  | 27 => fun v _ => v = .string tg
  | 28 => fun v _ => v = .pointer (some ⟨E, 6, none⟩)
  | 29 => fun v _ => v = .int .i64 t
  | 30 => fun v _ => v = .string tt
  | 31 => fun v _ => v = .pointer (some ⟨E, 7, none⟩)
  | 32 => fun v _ => v = .string us
  | 33 => fun v w => ∃ G, v = .slice (some ⟨G, 0, none⟩) 2 2 ∧ w.cell? ⟨G, 0, none⟩ = some (.string us) ∧ w.cell? ⟨G, 1, none⟩ = some (.string ⟨#[45]⟩)
  | 34 => fun v _ => v = .string tus
  | 35 => fun v _ => v = .pointer (some ⟨E, 8, none⟩)
  | 36 => fun v _ => v = .string gr
  | 37 => fun v w => ∃ G, v = .slice (some ⟨G, 0, none⟩) 2 2 ∧ w.cell? ⟨G, 0, none⟩ = some (.string gr) ∧ w.cell? ⟨G, 1, none⟩ = some (.string ⟨#[45]⟩)
  | 38 => fun v _ => v = .string tgr
  | 39 => fun v _ => v = .pointer (some ⟨E, 9, none⟩)
  | 40 => fun v _ => v = .string b
  | 41 => fun v _ => v = .int .i64 (b.size : Int)
  | 42 => fun v _ => v = .string tb
  | 43 => fun v _ => v = .pointer (some ⟨E, 1, none⟩)
  | 44 => fun v _ => v = .string p
  | 45 => fun v w => OwnL w base v [kc, tm, tu, tg, tt, tus, tgr, tb, p]
  | 5 => fun v w => OwnL w base v [kc, tm, tu, tg, tt, tus, tgr, tb, p]
  | _ => fun _ _ => True
theorem wordV_keep {C : World → Prop} (E : Nat) (k k1 : Int) (kc p tm : ByteArray) (u g t : Int) (us gr b tu tg tt tus tgr tb : ByteArray) (base : Nat) : ∀ d v w w', C w → Below w.heap.size w w' → wordV E k k1 kc p tm u g t us gr b tu tg tt tus tgr tb base d v w → wordV E k k1 kc p tm u g t us gr b tu tg tt tus tgr tb base d v w' := by
  intro d v w w' _ hb h
  unfold wordV at h ⊢
  split at h
  all_goals first | exact h | (obtain ⟨G, h1, h2, h3⟩ := h; exact ⟨G, h1, keepC h2 hb, keepC h3 hb⟩) | exact ownL_keep h hb
set_option maxHeartbeats 8000000 in
set_option maxRecDepth 8000 in
theorem entText_impl (k : Int) (p l : ByteArray) (m u g t : Int) (us gr b : ByteArray) (w : World) (hp : p.size ≤ 4194304) (hl : l.size ≤ 4194304) (hus : us.size ≤ 4194304) (hgr : gr.size ≤ 4194304) (htab : Tabs w) :
    Calls Tryd.prog 8 #[.agg #[.int .i64 k, .string p, .string l, .int .i64 m, .int .i64 u, .int .i64 g, .int .i64 t, .string us, .string gr, .string b]] w fun e w' => e = .returned (.string (entTextv ⟨k, p, l, m, u, g, t, us, gr, b⟩)) ∧ Below w.heap.size w w' := by
  obtain ⟨i0, hi0, hz0, hz1, hz2⟩ := info_parts Tryd.info9
  have HO := Lib.hid (fun w => entryOk_impl k p l m u g t us gr b w hp hl hus hgr)
  have HTab := Lib.hid htab
  clear htab
  cases hok : entOkv ⟨k, p, l, m, u, g, t, us, gr, b⟩ with
  | false =>
    have HF : Hid (entTextv ⟨k, p, l, m, u, g, t, us, gr, b⟩ = ⟨#[]⟩) := Lib.hid (by rw [entTextv, if_neg (by rw [hok]; simp)])
    rw [hok] at HO
    generalize entTextv ⟨k, p, l, m, u, g, t, us, gr, b⟩ = r at HF
    clear hok
    go_enter Tryd.func8, Tryd.ntmps8
    go_wp2_with fail
    refine (HO.out _).mono ?_
    rintro e w1 ⟨rfl, hb⟩
    obtain ⟨_, bb, _⟩ := one_new (e1 := ⟨k, p, l, m, u, g, t, us, gr, b⟩) hb
    have B1 := Lib.hid bb
    clear hb bb
    go_wp2_with fail
    go_ret
    exact ⟨ret_str HF.out.symm, B1.out⟩
  | true =>
    have HZ := Lib.hid (entText_words hok)
    have HL := Lib.hid (entText_more hok)
    obtain ⟨hk, hm, hu, hg, ht, hp2, hus2, hgr2, hb2, hl2⟩ := entOk_parts hok
    dsimp only [nineW] at hk hm hu hg ht hp2 hus2 hgr2 hb2 hl2 HZ HL
    rw [hok] at HO
    clear hok hp hl hus hgr
    generalize entTextv ⟨k, p, l, m, u, g, t, us, gr, b⟩ = r at HZ HL
    have HM := Lib.hid (fun w ht => putOct_impl m 4 w ht)
    have HU := Lib.hid (fun w (ht : Tabs w) => decText_impl u (by omega) (by omega) w ht.2.2)
    have HGd := Lib.hid (fun w (ht : Tabs w) => decText_impl g (by omega) (by omega) w ht.2.2)
    have HT := Lib.hid (fun w (ht : Tabs w) => decText_impl t (by omega) (by omega) w ht.2.2)
    have HBd := Lib.hid (fun w (ht : Tabs w) => decText_impl b.size (by omega) (by omega) w ht.2.2)
    have HUs := Lib.hid (fun G w h0 h1 => or_impl us G w h0 h1)
    have HGr := Lib.hid (fun G w h0 h1 => or_impl gr G w h0 h1)
    have z1 := oct_size m
    have z2 := dec_size u (by omega) (by omega)
    have z3 := dec_size g (by omega) (by omega)
    have z4 := dec_size t (by omega) (by omega)
    have z5 := dec_size b.size (by omega) (by omega)
    have z6 := or_size us hus2
    have z7 := or_size gr hgr2
    generalize (putOctv m 4).1 = tm at HM HZ HL z1
    generalize (putOctv m 4).2 = tm2 at HM
    generalize decTextv u = tu at HU HZ HL z2
    generalize decTextv g = tg at HGd HZ HL z3
    generalize decTextv t = tt at HT HZ HL z4
    generalize decTextv b.size = tb at HBd HZ HL z5
    generalize orV us = tus at HUs HZ HL z6
    generalize orV gr = tgr at HGr HZ HL z7
    have hbs : (b.size : Int) ≤ 3000 := by omega
    clear hb2
    rcases hk with rfl | rfl | rfl | rfl
    · obtain ⟨kc, hkc⟩ : ∃ kc : ByteArray, kc = ⟨#[102]⟩ := ⟨_, rfl⟩
      have HK : Hid (kindCh 0 = kc) := Lib.hid (by rw [hkc]; rfl)
      have zk : kc.size ≤ 1 := by rw [hkc]; decide
      rw [HK.out] at HZ HL
      have HS1 : Hid ((joinB [kc, tm, tu, tg, tt, tus, tgr, tb, p]).size ≤ 1000) := Lib.hid (by rw [← nine_join]; have zsp : (⟨#[32]⟩ : ByteArray).size = 1 := rfl; simp only [nineS, ByteArray.size_append]; omega)
      have HS2 : Hid ((joinB ([kc, tm, tu, tg, tt, tus, tgr, tb, p] ++ [⟨#[45, 62]⟩, l])).size ≤ 1000) := Lib.hid (by rw [← link_join]; have zsp : (⟨#[32]⟩ : ByteArray).size = 1 := rfl; have zlk : (⟨#[32, 45, 62, 32]⟩ : ByteArray).size = 4 := rfl; simp only [nineS, ByteArray.size_append]; omega)
      have HCut : Hid ((⟨#[102, 100, 108, 104]⟩ : ByteArray).extract 0 1 = kc) := Lib.hid (by rw [hkc]; rfl)
      have HKC := Lib.hid hkc
      clear hkc
      go_enter Tryd.func8, Tryd.ntmps8
      go_wp2_with fail
      refine (HO.out _).mono ?_
      rintro e w1 ⟨rfl, hb⟩
      obtain ⟨k1, bb, zb⟩ := one_new (e1 := ⟨_, p, l, m, u, g, t, us, gr, b⟩) hb
      have E1 := Lib.hid k1
      have B1 := Lib.hid bb
      have T1 := Lib.hid (HTab.out.below bb)
      clear hb k1 bb HO HTab
      obtain ⟨c0, c1, c2, c3, c4, c5, c6, c7, c8, c9⟩ := E1.out.zero
      go_wp2_with fail
      refine (HM.out _ T1.out).mono ?_
      rintro e w2 ⟨rfl, hb⟩
      replace E1 := Lib.hid (E1.out.below hb zb)
      replace B1 := Lib.hid (btE B1.out hb)
      replace T1 := Lib.hid (T1.out.below hb)
      replace zb := Nat.lt_of_lt_of_le zb hb.size
      clear hb HM c0 c1 c2 c3 c4 c5 c6 c7 c8 c9
      obtain ⟨c0, c1, c2, c3, c4, c5, c6, c7, c8, c9⟩ := E1.out.zero
      go_wp2_with fail
      have KC : Hid (∀ w', Below w2.heap.size w2 w' → w'.cell? ⟨w.heap.size, 0, none⟩ = some (.int .i64 0) ∧ w'.cell? ⟨w.heap.size, 1, none⟩ = some (.string p) ∧ w'.cell? ⟨w.heap.size, 4, none⟩ = some (.int .i64 u) ∧ w'.cell? ⟨w.heap.size, 5, none⟩ = some (.int .i64 g) ∧ w'.cell? ⟨w.heap.size, 6, none⟩ = some (.int .i64 t) ∧ w'.cell? ⟨w.heap.size, 7, none⟩ = some (.string us) ∧ w'.cell? ⟨w.heap.size, 8, none⟩ = some (.string gr) ∧ w'.cell? ⟨w.heap.size, 9, none⟩ = some (.string b)) := Lib.hid (fun w' hb => ⟨(hb.cell (p := ⟨w.heap.size, 0, none⟩) zb).trans c0, (hb.cell (p := ⟨w.heap.size, 1, none⟩) zb).trans c1, (hb.cell (p := ⟨w.heap.size, 4, none⟩) zb).trans c4, (hb.cell (p := ⟨w.heap.size, 5, none⟩) zb).trans c5, (hb.cell (p := ⟨w.heap.size, 6, none⟩) zb).trans c6, (hb.cell (p := ⟨w.heap.size, 7, none⟩) zb).trans c7, (hb.cell (p := ⟨w.heap.size, 8, none⟩) zb).trans c8, (hb.cell (p := ⟨w.heap.size, 9, none⟩) zb).trans c9⟩)
      clear c0 c1 c2 c3 c4 c5 c6 c7 c8 c9
      refine wp_region_inv (by kernel_rfl) (fun w' => Below w2.heap.size w2 w') (fun x y => Below x.heap.size x y) (wordV w.heap.size 0 1 kc p tm u g t us gr b tu tg tt tus tgr tb w2.heap.size) (by kernel_rfl) (kd0 w2) (wordV_keep _ _ _ _ _ _ _ _ _ _ _ _ _ _ _ _ _ _ _) ?hops ?hend
      case hops =>
        simp only [List.forall_mem_cons]
        refine ⟨?o15, ?o16, ?o17, ?o18, ?o19, ?o20, ?o21, ?o22, ?o23, ?o24, ?o25, ?o26, ?o27, ?o28, ?o29, ?o30, ?o31, ?o32, ?o33, ?o34, ?o35, ?o36, ?o37, ?o38, ?o39, ?o40, ?o41, ?o42, ?o43, ?o44, ?o45, ?o5, fun _ h => by cases h⟩
        case o15 =>
          intro Q a w3 hC hV hI
          have e1 : a.eval (.tmp 1) = .pointer (some ⟨w.heap.size, 0, none⟩) := (hI 1 (by simp [Op.operands]) (by kernel_rfl)).trans rfl
          have g1 : a.tmps[1]?.getD undef = .pointer (some ⟨w.heap.size, 0, none⟩) := by rw [← Array.getD_eq_getD_getElem?]; exact e1
          refine op_val (.pointer (some ⟨w.heap.size, 0, none⟩)) ?_ hC (Below.refl _ _) (by intro d hd; cases hd; rfl)
          (clear hV hI hC; go_simp <;> (first | rfl | simp))
        case o16 =>
          intro Q a w3 hC hV hI
          have e15 : a.eval (.tmp 15) = .pointer (some ⟨w.heap.size, 0, none⟩) := hV 15 (by simp [Op.operands]) (by kernel_rfl)
          have g15 : a.tmps[15]?.getD undef = .pointer (some ⟨w.heap.size, 0, none⟩) := by rw [← Array.getD_eq_getD_getElem?]; exact e15
          obtain ⟨d0, d1, d4, d5, d6, d7, d8, d9⟩ := KC.out w3 hC
          refine op_val (.int .i64 0) ?_ hC (Below.refl _ _) (by intro d hd; cases hd; rfl)
          (clear hV hI hC; go_simp <;> (first | rfl | simp))
        case o17 =>
          intro Q a w3 hC hV hI
          have e1 : a.eval (.tmp 1) = .pointer (some ⟨w.heap.size, 0, none⟩) := (hI 1 (by simp [Op.operands]) (by kernel_rfl)).trans rfl
          have g1 : a.tmps[1]?.getD undef = .pointer (some ⟨w.heap.size, 0, none⟩) := by rw [← Array.getD_eq_getD_getElem?]; exact e1
          refine op_val (.pointer (some ⟨w.heap.size, 0, none⟩)) ?_ hC (Below.refl _ _) (by intro d hd; cases hd; rfl)
          (clear hV hI hC; go_simp <;> (first | rfl | simp))
        case o18 =>
          intro Q a w3 hC hV hI
          have e17 : a.eval (.tmp 17) = .pointer (some ⟨w.heap.size, 0, none⟩) := hV 17 (by simp [Op.operands]) (by kernel_rfl)
          have g17 : a.tmps[17]?.getD undef = .pointer (some ⟨w.heap.size, 0, none⟩) := by rw [← Array.getD_eq_getD_getElem?]; exact e17
          obtain ⟨d0, d1, d4, d5, d6, d7, d8, d9⟩ := KC.out w3 hC
          refine op_val (.int .i64 0) ?_ hC (Below.refl _ _) (by intro d hd; cases hd; rfl)
          (clear hV hI hC; go_simp <;> (first | rfl | simp))
        case o19 =>
          intro Q a w3 hC hV hI
          have e18 : a.eval (.tmp 18) = .int .i64 0 := hV 18 (by simp [Op.operands]) (by kernel_rfl)
          have g18 : a.tmps[18]?.getD undef = .int .i64 0 := by rw [← Array.getD_eq_getD_getElem?]; exact e18
          refine op_val (.int .i64 1) ?_ hC (Below.refl _ _) (by intro d hd; cases hd; rfl)
          (clear hV hI hC; go_simp <;> (first | rfl | simp))
        case o20 =>
          intro Q a w3 hC hV hI
          have e16 : a.eval (.tmp 16) = .int .i64 0 := hV 16 (by simp [Op.operands]) (by kernel_rfl)
          have g16 : a.tmps[16]?.getD undef = .int .i64 0 := by rw [← Array.getD_eq_getD_getElem?]; exact e16
          have e19 : a.eval (.tmp 19) = .int .i64 1 := hV 19 (by simp [Op.operands]) (by kernel_rfl)
          have g19 : a.tmps[19]?.getD undef = .int .i64 1 := by rw [← Array.getD_eq_getD_getElem?]; exact e19
          have q := HCut.out
          refine op_val (.string kc) ?_ hC (Below.refl _ _) (by intro d hd; cases hd; rfl)
          (clear hV hI hC; go_simp <;> (first | rfl | simp))
        case o21 =>
          intro Q a w3 hC hV hI
          have e3 : a.eval (.tmp 3) = .string tm := (hI 3 (by simp [Op.operands]) (by kernel_rfl)).trans rfl
          have g3 : a.tmps[3]?.getD undef = .string tm := by rw [← Array.getD_eq_getD_getElem?]; exact e3
          refine op_val (.string tm) ?_ hC (Below.refl _ _) (by intro d hd; cases hd; rfl)
          (clear hV hI hC; go_simp <;> (first | rfl | simp))
        case o22 =>
          intro Q a w3 hC hV hI
          have e1 : a.eval (.tmp 1) = .pointer (some ⟨w.heap.size, 0, none⟩) := (hI 1 (by simp [Op.operands]) (by kernel_rfl)).trans rfl
          have g1 : a.tmps[1]?.getD undef = .pointer (some ⟨w.heap.size, 0, none⟩) := by rw [← Array.getD_eq_getD_getElem?]; exact e1
          refine op_val (.pointer (some ⟨w.heap.size, 4, none⟩)) ?_ hC (Below.refl _ _) (by intro d hd; cases hd; rfl)
          (clear hV hI hC; go_simp <;> (first | rfl | simp))
        case o23 =>
          intro Q a w3 hC hV hI
          have e22 : a.eval (.tmp 22) = .pointer (some ⟨w.heap.size, 4, none⟩) := hV 22 (by simp [Op.operands]) (by kernel_rfl)
          have g22 : a.tmps[22]?.getD undef = .pointer (some ⟨w.heap.size, 4, none⟩) := by rw [← Array.getD_eq_getD_getElem?]; exact e22
          obtain ⟨d0, d1, d4, d5, d6, d7, d8, d9⟩ := KC.out w3 hC
          refine op_val (.int .i64 u) ?_ hC (Below.refl _ _) (by intro d hd; cases hd; rfl)
          (clear hV hI hC; go_simp <;> (first | rfl | simp))
        case o24 =>
          intro Q a w3 hC hV hI
          have e23 : a.eval (.tmp 23) = .int .i64 u := hV 23 (by simp [Op.operands, Call.operands]) (by kernel_rfl)
          have g23 : a.tmps[23]?.getD undef = .int .i64 u := by rw [← Array.getD_eq_getD_getElem?]; exact e23
          refine op_call (f := 20) (args := #[.int .i64 u]) (R := fun v y => v = .string tu ∧ Below w3.heap.size w3 y) ?_ ((HU.out w3 (T1.out.below hC)).mono ?_) ?_
          · (clear hV hI hC; go_simp <;> (first | rfl | simp))
          · rintro e y ⟨rfl, hb⟩; exact ⟨_, rfl, rfl, hb⟩
          · rintro v y ⟨rfl, hb⟩; exact ⟨btE hC hb, hb, by intro d hd; cases hd; rfl⟩
        case o25 =>
          intro Q a w3 hC hV hI
          have e1 : a.eval (.tmp 1) = .pointer (some ⟨w.heap.size, 0, none⟩) := (hI 1 (by simp [Op.operands]) (by kernel_rfl)).trans rfl
          have g1 : a.tmps[1]?.getD undef = .pointer (some ⟨w.heap.size, 0, none⟩) := by rw [← Array.getD_eq_getD_getElem?]; exact e1
          refine op_val (.pointer (some ⟨w.heap.size, 5, none⟩)) ?_ hC (Below.refl _ _) (by intro d hd; cases hd; rfl)
          (clear hV hI hC; go_simp <;> (first | rfl | simp))
        case o26 =>
          intro Q a w3 hC hV hI
          have e25 : a.eval (.tmp 25) = .pointer (some ⟨w.heap.size, 5, none⟩) := hV 25 (by simp [Op.operands]) (by kernel_rfl)
          have g25 : a.tmps[25]?.getD undef = .pointer (some ⟨w.heap.size, 5, none⟩) := by rw [← Array.getD_eq_getD_getElem?]; exact e25
          obtain ⟨d0, d1, d4, d5, d6, d7, d8, d9⟩ := KC.out w3 hC
          refine op_val (.int .i64 g) ?_ hC (Below.refl _ _) (by intro d hd; cases hd; rfl)
          (clear hV hI hC; go_simp <;> (first | rfl | simp))
        case o27 =>
          intro Q a w3 hC hV hI
          have e26 : a.eval (.tmp 26) = .int .i64 g := hV 26 (by simp [Op.operands, Call.operands]) (by kernel_rfl)
          have g26 : a.tmps[26]?.getD undef = .int .i64 g := by rw [← Array.getD_eq_getD_getElem?]; exact e26
          refine op_call (f := 20) (args := #[.int .i64 g]) (R := fun v y => v = .string tg ∧ Below w3.heap.size w3 y) ?_ ((HGd.out w3 (T1.out.below hC)).mono ?_) ?_
          · (clear hV hI hC; go_simp <;> (first | rfl | simp))
          · rintro e y ⟨rfl, hb⟩; exact ⟨_, rfl, rfl, hb⟩
          · rintro v y ⟨rfl, hb⟩; exact ⟨btE hC hb, hb, by intro d hd; cases hd; rfl⟩
        case o28 =>
          intro Q a w3 hC hV hI
          have e1 : a.eval (.tmp 1) = .pointer (some ⟨w.heap.size, 0, none⟩) := (hI 1 (by simp [Op.operands]) (by kernel_rfl)).trans rfl
          have g1 : a.tmps[1]?.getD undef = .pointer (some ⟨w.heap.size, 0, none⟩) := by rw [← Array.getD_eq_getD_getElem?]; exact e1
          refine op_val (.pointer (some ⟨w.heap.size, 6, none⟩)) ?_ hC (Below.refl _ _) (by intro d hd; cases hd; rfl)
          (clear hV hI hC; go_simp <;> (first | rfl | simp))
        case o29 =>
          intro Q a w3 hC hV hI
          have e28 : a.eval (.tmp 28) = .pointer (some ⟨w.heap.size, 6, none⟩) := hV 28 (by simp [Op.operands]) (by kernel_rfl)
          have g28 : a.tmps[28]?.getD undef = .pointer (some ⟨w.heap.size, 6, none⟩) := by rw [← Array.getD_eq_getD_getElem?]; exact e28
          obtain ⟨d0, d1, d4, d5, d6, d7, d8, d9⟩ := KC.out w3 hC
          refine op_val (.int .i64 t) ?_ hC (Below.refl _ _) (by intro d hd; cases hd; rfl)
          (clear hV hI hC; go_simp <;> (first | rfl | simp))
        case o30 =>
          intro Q a w3 hC hV hI
          have e29 : a.eval (.tmp 29) = .int .i64 t := hV 29 (by simp [Op.operands, Call.operands]) (by kernel_rfl)
          have g29 : a.tmps[29]?.getD undef = .int .i64 t := by rw [← Array.getD_eq_getD_getElem?]; exact e29
          refine op_call (f := 20) (args := #[.int .i64 t]) (R := fun v y => v = .string tt ∧ Below w3.heap.size w3 y) ?_ ((HT.out w3 (T1.out.below hC)).mono ?_) ?_
          · (clear hV hI hC; go_simp <;> (first | rfl | simp))
          · rintro e y ⟨rfl, hb⟩; exact ⟨_, rfl, rfl, hb⟩
          · rintro v y ⟨rfl, hb⟩; exact ⟨btE hC hb, hb, by intro d hd; cases hd; rfl⟩
        case o31 =>
          intro Q a w3 hC hV hI
          have e1 : a.eval (.tmp 1) = .pointer (some ⟨w.heap.size, 0, none⟩) := (hI 1 (by simp [Op.operands]) (by kernel_rfl)).trans rfl
          have g1 : a.tmps[1]?.getD undef = .pointer (some ⟨w.heap.size, 0, none⟩) := by rw [← Array.getD_eq_getD_getElem?]; exact e1
          refine op_val (.pointer (some ⟨w.heap.size, 7, none⟩)) ?_ hC (Below.refl _ _) (by intro d hd; cases hd; rfl)
          (clear hV hI hC; go_simp <;> (first | rfl | simp))
        case o32 =>
          intro Q a w3 hC hV hI
          have e31 : a.eval (.tmp 31) = .pointer (some ⟨w.heap.size, 7, none⟩) := hV 31 (by simp [Op.operands]) (by kernel_rfl)
          have g31 : a.tmps[31]?.getD undef = .pointer (some ⟨w.heap.size, 7, none⟩) := by rw [← Array.getD_eq_getD_getElem?]; exact e31
          obtain ⟨d0, d1, d4, d5, d6, d7, d8, d9⟩ := KC.out w3 hC
          refine op_val (.string us) ?_ hC (Below.refl _ _) (by intro d hd; cases hd; rfl)
          (clear hV hI hC; go_simp <;> (first | rfl | simp))
        case o33 =>
          intro Q a w3 hC hV hI
          have e32 : a.eval (.tmp 32) = .string us := hV 32 (by simp [Op.operands]) (by kernel_rfl)
          have g32 : a.tmps[32]?.getD undef = .string us := by rw [← Array.getD_eq_getD_getElem?]; exact e32
          refine op_val (.slice (some ⟨w3.heap.size, 0, none⟩) 2 2) (w' := w3.alloc (.cells #[.string us, .string ⟨#[45]⟩] 9)) ?_ (hC.alloc hC.size _) ((Below.refl _ _).alloc (Nat.le_refl _) _) ?_
          · (clear hV hI hC; go_simp <;> (first | rfl | simp))
          · intro d hd; cases hd; exact ⟨w3.heap.size, rfl, by simp, by simp⟩
        case o34 =>
          intro Q a w3 hC hV hI
          obtain ⟨G, e33, q0, q1⟩ : ∃ G, a.eval (.tmp 33) = .slice (some ⟨G, 0, none⟩) 2 2 ∧ w3.cell? ⟨G, 0, none⟩ = some (.string us) ∧ w3.cell? ⟨G, 1, none⟩ = some (.string ⟨#[45]⟩) := hV 33 (by simp [Op.operands, Call.operands]) (by kernel_rfl)
          have g33 : a.tmps[33]?.getD undef = .slice (some ⟨G, 0, none⟩) 2 2 := by rw [← Array.getD_eq_getD_getElem?]; exact e33
          refine op_call (f := 21) (args := #[.slice (some ⟨G, 0, none⟩) 2 2]) (R := fun v y => v = .string tus ∧ w3 = y) ?_ ((HUs.out G w3 q0 q1).mono ?_) ?_
          · (clear q0 q1); (clear hV hI hC; go_simp <;> (first | rfl | simp))
          · rintro e y ⟨rfl, rfl⟩; exact ⟨_, rfl, rfl, rfl⟩
          · rintro v y ⟨rfl, rfl⟩; exact ⟨hC, Below.refl _ _, by intro d hd; cases hd; rfl⟩
        case o35 =>
          intro Q a w3 hC hV hI
          have e1 : a.eval (.tmp 1) = .pointer (some ⟨w.heap.size, 0, none⟩) := (hI 1 (by simp [Op.operands]) (by kernel_rfl)).trans rfl
          have g1 : a.tmps[1]?.getD undef = .pointer (some ⟨w.heap.size, 0, none⟩) := by rw [← Array.getD_eq_getD_getElem?]; exact e1
          refine op_val (.pointer (some ⟨w.heap.size, 8, none⟩)) ?_ hC (Below.refl _ _) (by intro d hd; cases hd; rfl)
          (clear hV hI hC; go_simp <;> (first | rfl | simp))
        case o36 =>
          intro Q a w3 hC hV hI
          have e35 : a.eval (.tmp 35) = .pointer (some ⟨w.heap.size, 8, none⟩) := hV 35 (by simp [Op.operands]) (by kernel_rfl)
          have g35 : a.tmps[35]?.getD undef = .pointer (some ⟨w.heap.size, 8, none⟩) := by rw [← Array.getD_eq_getD_getElem?]; exact e35
          obtain ⟨d0, d1, d4, d5, d6, d7, d8, d9⟩ := KC.out w3 hC
          refine op_val (.string gr) ?_ hC (Below.refl _ _) (by intro d hd; cases hd; rfl)
          (clear hV hI hC; go_simp <;> (first | rfl | simp))
        case o37 =>
          intro Q a w3 hC hV hI
          have e36 : a.eval (.tmp 36) = .string gr := hV 36 (by simp [Op.operands]) (by kernel_rfl)
          have g36 : a.tmps[36]?.getD undef = .string gr := by rw [← Array.getD_eq_getD_getElem?]; exact e36
          refine op_val (.slice (some ⟨w3.heap.size, 0, none⟩) 2 2) (w' := w3.alloc (.cells #[.string gr, .string ⟨#[45]⟩] 9)) ?_ (hC.alloc hC.size _) ((Below.refl _ _).alloc (Nat.le_refl _) _) ?_
          · (clear hV hI hC; go_simp <;> (first | rfl | simp))
          · intro d hd; cases hd; exact ⟨w3.heap.size, rfl, by simp, by simp⟩
        case o38 =>
          intro Q a w3 hC hV hI
          obtain ⟨G, e37, q0, q1⟩ : ∃ G, a.eval (.tmp 37) = .slice (some ⟨G, 0, none⟩) 2 2 ∧ w3.cell? ⟨G, 0, none⟩ = some (.string gr) ∧ w3.cell? ⟨G, 1, none⟩ = some (.string ⟨#[45]⟩) := hV 37 (by simp [Op.operands, Call.operands]) (by kernel_rfl)
          have g37 : a.tmps[37]?.getD undef = .slice (some ⟨G, 0, none⟩) 2 2 := by rw [← Array.getD_eq_getD_getElem?]; exact e37
          refine op_call (f := 21) (args := #[.slice (some ⟨G, 0, none⟩) 2 2]) (R := fun v y => v = .string tgr ∧ w3 = y) ?_ ((HGr.out G w3 q0 q1).mono ?_) ?_
          · (clear q0 q1); (clear hV hI hC; go_simp <;> (first | rfl | simp))
          · rintro e y ⟨rfl, rfl⟩; exact ⟨_, rfl, rfl, rfl⟩
          · rintro v y ⟨rfl, rfl⟩; exact ⟨hC, Below.refl _ _, by intro d hd; cases hd; rfl⟩
        case o39 =>
          intro Q a w3 hC hV hI
          have e1 : a.eval (.tmp 1) = .pointer (some ⟨w.heap.size, 0, none⟩) := (hI 1 (by simp [Op.operands]) (by kernel_rfl)).trans rfl
          have g1 : a.tmps[1]?.getD undef = .pointer (some ⟨w.heap.size, 0, none⟩) := by rw [← Array.getD_eq_getD_getElem?]; exact e1
          refine op_val (.pointer (some ⟨w.heap.size, 9, none⟩)) ?_ hC (Below.refl _ _) (by intro d hd; cases hd; rfl)
          (clear hV hI hC; go_simp <;> (first | rfl | simp))
        case o40 =>
          intro Q a w3 hC hV hI
          have e39 : a.eval (.tmp 39) = .pointer (some ⟨w.heap.size, 9, none⟩) := hV 39 (by simp [Op.operands]) (by kernel_rfl)
          have g39 : a.tmps[39]?.getD undef = .pointer (some ⟨w.heap.size, 9, none⟩) := by rw [← Array.getD_eq_getD_getElem?]; exact e39
          obtain ⟨d0, d1, d4, d5, d6, d7, d8, d9⟩ := KC.out w3 hC
          refine op_val (.string b) ?_ hC (Below.refl _ _) (by intro d hd; cases hd; rfl)
          (clear hV hI hC; go_simp <;> (first | rfl | simp))
        case o41 =>
          intro Q a w3 hC hV hI
          have e40 : a.eval (.tmp 40) = .string b := hV 40 (by simp [Op.operands, Call.operands]) (by kernel_rfl)
          have g40 : a.tmps[40]?.getD undef = .string b := by rw [← Array.getD_eq_getD_getElem?]; exact e40
          refine op_val (.int .i64 (b.size : Int)) ?_ hC (Below.refl _ _) (by intro d hd; cases hd; rfl)
          (clear hV hI hC; go_simp <;> (first | rfl | simp))
        case o42 =>
          intro Q a w3 hC hV hI
          have e41 : a.eval (.tmp 41) = .int .i64 (b.size : Int) := hV 41 (by simp [Op.operands, Call.operands]) (by kernel_rfl)
          have g41 : a.tmps[41]?.getD undef = .int .i64 (b.size : Int) := by rw [← Array.getD_eq_getD_getElem?]; exact e41
          refine op_call (f := 20) (args := #[.int .i64 (b.size : Int)]) (R := fun v y => v = .string tb ∧ Below w3.heap.size w3 y) ?_ ((HBd.out w3 (T1.out.below hC)).mono ?_) ?_
          · (clear hV hI hC; go_simp <;> (first | rfl | simp))
          · rintro e y ⟨rfl, hb⟩; exact ⟨_, rfl, rfl, hb⟩
          · rintro v y ⟨rfl, hb⟩; exact ⟨btE hC hb, hb, by intro d hd; cases hd; rfl⟩
        case o43 =>
          intro Q a w3 hC hV hI
          have e1 : a.eval (.tmp 1) = .pointer (some ⟨w.heap.size, 0, none⟩) := (hI 1 (by simp [Op.operands]) (by kernel_rfl)).trans rfl
          have g1 : a.tmps[1]?.getD undef = .pointer (some ⟨w.heap.size, 0, none⟩) := by rw [← Array.getD_eq_getD_getElem?]; exact e1
          refine op_val (.pointer (some ⟨w.heap.size, 1, none⟩)) ?_ hC (Below.refl _ _) (by intro d hd; cases hd; rfl)
          (clear hV hI hC; go_simp <;> (first | rfl | simp))
        case o44 =>
          intro Q a w3 hC hV hI
          have e43 : a.eval (.tmp 43) = .pointer (some ⟨w.heap.size, 1, none⟩) := hV 43 (by simp [Op.operands]) (by kernel_rfl)
          have g43 : a.tmps[43]?.getD undef = .pointer (some ⟨w.heap.size, 1, none⟩) := by rw [← Array.getD_eq_getD_getElem?]; exact e43
          obtain ⟨d0, d1, d4, d5, d6, d7, d8, d9⟩ := KC.out w3 hC
          refine op_val (.string p) ?_ hC (Below.refl _ _) (by intro d hd; cases hd; rfl)
          (clear hV hI hC; go_simp <;> (first | rfl | simp))
        case o45 =>
          intro Q a w3 hC hV hI
          have e20 : a.eval (.tmp 20) = .string kc := hV 20 (by simp [Op.operands]) (by kernel_rfl)
          have g20 : a.tmps[20]?.getD undef = .string kc := by rw [← Array.getD_eq_getD_getElem?]; exact e20
          have e21 : a.eval (.tmp 21) = .string tm := hV 21 (by simp [Op.operands]) (by kernel_rfl)
          have g21 : a.tmps[21]?.getD undef = .string tm := by rw [← Array.getD_eq_getD_getElem?]; exact e21
          have e24 : a.eval (.tmp 24) = .string tu := hV 24 (by simp [Op.operands]) (by kernel_rfl)
          have g24 : a.tmps[24]?.getD undef = .string tu := by rw [← Array.getD_eq_getD_getElem?]; exact e24
          have e27 : a.eval (.tmp 27) = .string tg := hV 27 (by simp [Op.operands]) (by kernel_rfl)
          have g27 : a.tmps[27]?.getD undef = .string tg := by rw [← Array.getD_eq_getD_getElem?]; exact e27
          have e30 : a.eval (.tmp 30) = .string tt := hV 30 (by simp [Op.operands]) (by kernel_rfl)
          have g30 : a.tmps[30]?.getD undef = .string tt := by rw [← Array.getD_eq_getD_getElem?]; exact e30
          have e34 : a.eval (.tmp 34) = .string tus := hV 34 (by simp [Op.operands]) (by kernel_rfl)
          have g34 : a.tmps[34]?.getD undef = .string tus := by rw [← Array.getD_eq_getD_getElem?]; exact e34
          have e38 : a.eval (.tmp 38) = .string tgr := hV 38 (by simp [Op.operands]) (by kernel_rfl)
          have g38 : a.tmps[38]?.getD undef = .string tgr := by rw [← Array.getD_eq_getD_getElem?]; exact e38
          have e42 : a.eval (.tmp 42) = .string tb := hV 42 (by simp [Op.operands]) (by kernel_rfl)
          have g42 : a.tmps[42]?.getD undef = .string tb := by rw [← Array.getD_eq_getD_getElem?]; exact e42
          have e44 : a.eval (.tmp 44) = .string p := hV 44 (by simp [Op.operands]) (by kernel_rfl)
          have g44 : a.tmps[44]?.getD undef = .string p := by rw [← Array.getD_eq_getD_getElem?]; exact e44
          refine op_val (.slice (some ⟨w3.heap.size, 0, none⟩) 9 9) (w' := w3.alloc (.cells #[.string kc, .string tm, .string tu, .string tg, .string tt, .string tus, .string tgr, .string tb, .string p] 9)) ?_ (hC.alloc hC.size _) ((Below.refl _ _).alloc (Nat.le_refl _) _) ?_
          · (clear hV hI hC; go_simp <;> (first | rfl | simp))
          · intro d hd; cases hd; exact ⟨World.ownsRow_lit w3 _ 9 hC.size (by simp only [maxLen]; omega) rfl, _, _, rfl⟩
        case o5 =>
          intro Q a w3 hC hV hI
          have e45 : OwnL w3 w2.heap.size (a.eval (.tmp 45)) [kc, tm, tu, tg, tt, tus, tgr, tb, p] := hV 45 (by simp [Op.operands]) (by kernel_rfl)
          obtain ⟨v45, q45⟩ : ∃ v, a.eval (.tmp 45) = v := ⟨_, rfl⟩
          rw [q45] at e45
          have g45 : a.tmps[45]?.getD undef = v45 := by rw [← Array.getD_eq_getD_getElem?]; exact q45
          refine op_val v45 ?_ hC (Below.refl _ _) (by intro d hd; cases hd; exact e45)
          (clear hV hI hC e45; go_simp <;> (first | rfl | simp))
      case hend =>
        intro f w3 hC hall
        replace E1 := Lib.hid (E1.out.below hC zb)
        have B2 := Lib.hid (btE B1.out hC)
        have zz := Nat.le_trans B1.out.size hC.size
        have zz2 := hC.size
        clear hC KC B1 T1
        simp only [List.forall_mem_cons] at hall
        obtain ⟨h15, h16, h17, h18, h19, h20, h21, h22, h23, h24, h25, h26, h27, h28, h29, h30, h31, h32, h33, h34, h35, h36, h37, h38, h39, h40, h41, h42, h43, h44, h45, h5, _⟩ := hall
        replace h15 : f 15 = .pointer (some ⟨w.heap.size, 0, none⟩) := h15 15 rfl
        replace h16 : f 16 = .int .i64 0 := h16 16 rfl
        replace h17 : f 17 = .pointer (some ⟨w.heap.size, 0, none⟩) := h17 17 rfl
        replace h18 : f 18 = .int .i64 0 := h18 18 rfl
        replace h19 : f 19 = .int .i64 1 := h19 19 rfl
        replace h20 : f 20 = .string kc := h20 20 rfl
        replace h21 : f 21 = .string tm := h21 21 rfl
        replace h22 : f 22 = .pointer (some ⟨w.heap.size, 4, none⟩) := h22 22 rfl
        replace h23 : f 23 = .int .i64 u := h23 23 rfl
        replace h24 : f 24 = .string tu := h24 24 rfl
        replace h25 : f 25 = .pointer (some ⟨w.heap.size, 5, none⟩) := h25 25 rfl
        replace h26 : f 26 = .int .i64 g := h26 26 rfl
        replace h27 : f 27 = .string tg := h27 27 rfl
        replace h28 : f 28 = .pointer (some ⟨w.heap.size, 6, none⟩) := h28 28 rfl
        replace h29 : f 29 = .int .i64 t := h29 29 rfl
        replace h30 : f 30 = .string tt := h30 30 rfl
        replace h31 : f 31 = .pointer (some ⟨w.heap.size, 7, none⟩) := h31 31 rfl
        replace h32 : f 32 = .string us := h32 32 rfl
        clear h33
        replace h34 : f 34 = .string tus := h34 34 rfl
        replace h35 : f 35 = .pointer (some ⟨w.heap.size, 8, none⟩) := h35 35 rfl
        replace h36 : f 36 = .string gr := h36 36 rfl
        clear h37
        replace h38 : f 38 = .string tgr := h38 38 rfl
        replace h39 : f 39 = .pointer (some ⟨w.heap.size, 9, none⟩) := h39 39 rfl
        replace h40 : f 40 = .string b := h40 40 rfl
        replace h41 : f 41 = .int .i64 (b.size : Int) := h41 41 rfl
        replace h42 : f 42 = .string tb := h42 42 rfl
        replace h43 : f 43 = .pointer (some ⟨w.heap.size, 1, none⟩) := h43 43 rfl
        replace h44 : f 44 = .string p := h44 44 rfl
        clear h45
        replace h5 : OwnL w3 w2.heap.size (f 5) [kc, tm, tu, tg, tt, tus, tgr, tb, p] := h5 5 rfl
        simp only [putAll, Act.put, List.setIfInBounds_toArray, List.set_cons_succ, List.set_cons_zero, h15, h16, h17, h18, h19, h20, h21, h22, h23, h24, h25, h26, h27, h28, h29, h30, h31, h32, h34, h35, h36, h38, h39, h40, h41, h42, h43, h44]
        generalize f 33 = v33
        generalize f 37 = v37
        generalize f 45 = v45
        generalize f 5 = v5 at h5 ⊢
        have ho := h5.1
        have hq : ∃ gw cw, v5 = .slice (some ⟨gw, 0, none⟩) 9 cw := h5.2
        obtain ⟨gw, cw, rfl⟩ := hq
        clear h5
        have O : Hid (w3.ownsRow w2.heap.size 9 1 (.slice (some ⟨gw, 0, none⟩) 9 cw) 9 (strVals [kc, tm, tu, tg, tt, tus, tgr, tb, p])) := Lib.hid ho
        clear ho
        clear h15 h16 h17 h18 h19 h20 h21 h22 h23 h24 h25 h26 h27 h28 h29 h30 h31 h32 h34 h35 h36 h38 h39 h40 h41 h42 h43 h44
        obtain ⟨c0, c1, c2, c3, c4, c5, c6, c7, c8, c9⟩ := E1.out.zero
        clear c0 c1 c3 c4 c5 c6 c7 c8 c9
        by_cases hl0 : l.size = 0
        · have q := empty_t hl0
          have HF := Lib.hid (HZ.out hl0)
          have HJ : Hid (Calls Tryd.prog 22 #[.slice (some ⟨gw, 0, none⟩) 9 cw, .string ⟨#[32]⟩] w3 fun e w' => e = .returned (.string (joinB [kc, tm, tu, tg, tt, tus, tgr, tb, p])) ∧ Below w3.heap.size w3 w') := Lib.hid (joinS [kc, tm, tu, tg, tt, tus, tgr, tb, p] gw cw w2.heap.size w3 HS1.out (by simp) O.out)
          skip
          clear hl0 HZ HL
          go_wp2_with fail
          refine HJ.out.mono ?_
          rintro e w4 ⟨rfl, hb⟩
          go_wp2_with fail
          go_ret
          exact ⟨ret_str HF.out.symm, btE B2.out hb⟩
        · have q := empty_f hl0
          have HF := Lib.hid (HL.out hl0)
          have HJ := Lib.hid (fun gw cw w h => joinS ([kc, tm, tu, tg, tt, tus, tgr, tb, p] ++ [⟨#[45, 62]⟩, l]) gw cw w2.heap.size w HS2.out (by simp) h)
          clear hl0 HZ HL
          go_wp2_with (at_builtin; refine wpList_append_own _ rfl _ _ 39 rfl w2.heap.size 9 i0 (.string ⟨#[]⟩) 1 16 Tryd.underlying39 hi0 hz0 hz1 hz2 rfl (by decide) _ 9 (strVals [kc, tm, tu, tg, tt, tus, tgr, tb, p]) rfl (World.ownsRow.alloc O.out _) ⟨w3.heap.size, 0, none⟩ 2 2 [.string ⟨#[45, 62]⟩, .string l] rfl rfl ?c1k0 ?c2k0 ?c3k0 ?c4k0 ?c5k0 ?_)
          case c2k0 => exact ⟨rfl, rfl⟩
          case c3k0 => simp only [maxLen]; decide
          case c5k0 => first | omega | (simp; omega)
          · intro v' w4 hown' hgrow hnil
            have hO : OwnL w4 w2.heap.size v' ([kc, tm, tu, tg, tt, tus, tgr, tb, p] ++ [⟨#[45, 62]⟩, l]) := own_two hown' hnil
            have hB : Below w.heap.size w w4 := (B2.out.alloc zz _).grown hgrow (by simp; omega) (fun b hb => by have := (World.ownsRow.lt O.out b hb).1; have := B2.out.size; simp only [Value.ownBlock, Option.some.injEq] at hb; omega)
            have ho := hO.1
            have hq : ∃ g c, v' = .slice (some ⟨g, 0, none⟩) 11 c := hO.2
            obtain ⟨g2, c2w, rfl⟩ := hq
            have O2 := Lib.hid ho
            clear hO
            have B3 := Lib.hid hB
            clear hown' hgrow hnil ho hB
            have HJ2 : Hid (Calls Tryd.prog 22 #[.slice (some ⟨g2, 0, none⟩) 11 c2w, .string ⟨#[32]⟩] w4 fun e w' => e = .returned (.string (joinB ([kc, tm, tu, tg, tt, tus, tgr, tb, p] ++ [⟨#[45, 62]⟩, l]))) ∧ Below w4.heap.size w4 w') := Lib.hid (HJ.out g2 c2w w4 O2.out)
            clear HJ
            go_wp2_with fail
            refine HJ2.out.mono ?_
            rintro e w5 ⟨rfl, hb⟩
            go_wp2_with fail
            go_ret
            exact ⟨ret_str HF.out.symm, btE B3.out hb⟩
    · obtain ⟨kc, hkc⟩ : ∃ kc : ByteArray, kc = ⟨#[100]⟩ := ⟨_, rfl⟩
      have HK : Hid (kindCh 1 = kc) := Lib.hid (by rw [hkc]; rfl)
      have zk : kc.size ≤ 1 := by rw [hkc]; decide
      rw [HK.out] at HZ HL
      have HS1 : Hid ((joinB [kc, tm, tu, tg, tt, tus, tgr, tb, p]).size ≤ 1000) := Lib.hid (by rw [← nine_join]; have zsp : (⟨#[32]⟩ : ByteArray).size = 1 := rfl; simp only [nineS, ByteArray.size_append]; omega)
      have HS2 : Hid ((joinB ([kc, tm, tu, tg, tt, tus, tgr, tb, p] ++ [⟨#[45, 62]⟩, l])).size ≤ 1000) := Lib.hid (by rw [← link_join]; have zsp : (⟨#[32]⟩ : ByteArray).size = 1 := rfl; have zlk : (⟨#[32, 45, 62, 32]⟩ : ByteArray).size = 4 := rfl; simp only [nineS, ByteArray.size_append]; omega)
      have HCut : Hid ((⟨#[102, 100, 108, 104]⟩ : ByteArray).extract 1 2 = kc) := Lib.hid (by rw [hkc]; rfl)
      have HKC := Lib.hid hkc
      clear hkc
      go_enter Tryd.func8, Tryd.ntmps8
      go_wp2_with fail
      refine (HO.out _).mono ?_
      rintro e w1 ⟨rfl, hb⟩
      obtain ⟨k1, bb, zb⟩ := one_new (e1 := ⟨_, p, l, m, u, g, t, us, gr, b⟩) hb
      have E1 := Lib.hid k1
      have B1 := Lib.hid bb
      have T1 := Lib.hid (HTab.out.below bb)
      clear hb k1 bb HO HTab
      obtain ⟨c0, c1, c2, c3, c4, c5, c6, c7, c8, c9⟩ := E1.out.zero
      go_wp2_with fail
      refine (HM.out _ T1.out).mono ?_
      rintro e w2 ⟨rfl, hb⟩
      replace E1 := Lib.hid (E1.out.below hb zb)
      replace B1 := Lib.hid (btE B1.out hb)
      replace T1 := Lib.hid (T1.out.below hb)
      replace zb := Nat.lt_of_lt_of_le zb hb.size
      clear hb HM c0 c1 c2 c3 c4 c5 c6 c7 c8 c9
      obtain ⟨c0, c1, c2, c3, c4, c5, c6, c7, c8, c9⟩ := E1.out.zero
      go_wp2_with fail
      have KC : Hid (∀ w', Below w2.heap.size w2 w' → w'.cell? ⟨w.heap.size, 0, none⟩ = some (.int .i64 1) ∧ w'.cell? ⟨w.heap.size, 1, none⟩ = some (.string p) ∧ w'.cell? ⟨w.heap.size, 4, none⟩ = some (.int .i64 u) ∧ w'.cell? ⟨w.heap.size, 5, none⟩ = some (.int .i64 g) ∧ w'.cell? ⟨w.heap.size, 6, none⟩ = some (.int .i64 t) ∧ w'.cell? ⟨w.heap.size, 7, none⟩ = some (.string us) ∧ w'.cell? ⟨w.heap.size, 8, none⟩ = some (.string gr) ∧ w'.cell? ⟨w.heap.size, 9, none⟩ = some (.string b)) := Lib.hid (fun w' hb => ⟨(hb.cell (p := ⟨w.heap.size, 0, none⟩) zb).trans c0, (hb.cell (p := ⟨w.heap.size, 1, none⟩) zb).trans c1, (hb.cell (p := ⟨w.heap.size, 4, none⟩) zb).trans c4, (hb.cell (p := ⟨w.heap.size, 5, none⟩) zb).trans c5, (hb.cell (p := ⟨w.heap.size, 6, none⟩) zb).trans c6, (hb.cell (p := ⟨w.heap.size, 7, none⟩) zb).trans c7, (hb.cell (p := ⟨w.heap.size, 8, none⟩) zb).trans c8, (hb.cell (p := ⟨w.heap.size, 9, none⟩) zb).trans c9⟩)
      clear c0 c1 c2 c3 c4 c5 c6 c7 c8 c9
      refine wp_region_inv (by kernel_rfl) (fun w' => Below w2.heap.size w2 w') (fun x y => Below x.heap.size x y) (wordV w.heap.size 1 2 kc p tm u g t us gr b tu tg tt tus tgr tb w2.heap.size) (by kernel_rfl) (kd0 w2) (wordV_keep _ _ _ _ _ _ _ _ _ _ _ _ _ _ _ _ _ _ _) ?hops ?hend
      case hops =>
        simp only [List.forall_mem_cons]
        refine ⟨?o15, ?o16, ?o17, ?o18, ?o19, ?o20, ?o21, ?o22, ?o23, ?o24, ?o25, ?o26, ?o27, ?o28, ?o29, ?o30, ?o31, ?o32, ?o33, ?o34, ?o35, ?o36, ?o37, ?o38, ?o39, ?o40, ?o41, ?o42, ?o43, ?o44, ?o45, ?o5, fun _ h => by cases h⟩
        case o15 =>
          intro Q a w3 hC hV hI
          have e1 : a.eval (.tmp 1) = .pointer (some ⟨w.heap.size, 0, none⟩) := (hI 1 (by simp [Op.operands]) (by kernel_rfl)).trans rfl
          have g1 : a.tmps[1]?.getD undef = .pointer (some ⟨w.heap.size, 0, none⟩) := by rw [← Array.getD_eq_getD_getElem?]; exact e1
          refine op_val (.pointer (some ⟨w.heap.size, 0, none⟩)) ?_ hC (Below.refl _ _) (by intro d hd; cases hd; rfl)
          (clear hV hI hC; go_simp <;> (first | rfl | simp))
        case o16 =>
          intro Q a w3 hC hV hI
          have e15 : a.eval (.tmp 15) = .pointer (some ⟨w.heap.size, 0, none⟩) := hV 15 (by simp [Op.operands]) (by kernel_rfl)
          have g15 : a.tmps[15]?.getD undef = .pointer (some ⟨w.heap.size, 0, none⟩) := by rw [← Array.getD_eq_getD_getElem?]; exact e15
          obtain ⟨d0, d1, d4, d5, d6, d7, d8, d9⟩ := KC.out w3 hC
          refine op_val (.int .i64 1) ?_ hC (Below.refl _ _) (by intro d hd; cases hd; rfl)
          (clear hV hI hC; go_simp <;> (first | rfl | simp))
        case o17 =>
          intro Q a w3 hC hV hI
          have e1 : a.eval (.tmp 1) = .pointer (some ⟨w.heap.size, 0, none⟩) := (hI 1 (by simp [Op.operands]) (by kernel_rfl)).trans rfl
          have g1 : a.tmps[1]?.getD undef = .pointer (some ⟨w.heap.size, 0, none⟩) := by rw [← Array.getD_eq_getD_getElem?]; exact e1
          refine op_val (.pointer (some ⟨w.heap.size, 0, none⟩)) ?_ hC (Below.refl _ _) (by intro d hd; cases hd; rfl)
          (clear hV hI hC; go_simp <;> (first | rfl | simp))
        case o18 =>
          intro Q a w3 hC hV hI
          have e17 : a.eval (.tmp 17) = .pointer (some ⟨w.heap.size, 0, none⟩) := hV 17 (by simp [Op.operands]) (by kernel_rfl)
          have g17 : a.tmps[17]?.getD undef = .pointer (some ⟨w.heap.size, 0, none⟩) := by rw [← Array.getD_eq_getD_getElem?]; exact e17
          obtain ⟨d0, d1, d4, d5, d6, d7, d8, d9⟩ := KC.out w3 hC
          refine op_val (.int .i64 1) ?_ hC (Below.refl _ _) (by intro d hd; cases hd; rfl)
          (clear hV hI hC; go_simp <;> (first | rfl | simp))
        case o19 =>
          intro Q a w3 hC hV hI
          have e18 : a.eval (.tmp 18) = .int .i64 1 := hV 18 (by simp [Op.operands]) (by kernel_rfl)
          have g18 : a.tmps[18]?.getD undef = .int .i64 1 := by rw [← Array.getD_eq_getD_getElem?]; exact e18
          refine op_val (.int .i64 2) ?_ hC (Below.refl _ _) (by intro d hd; cases hd; rfl)
          (clear hV hI hC; go_simp <;> (first | rfl | simp))
        case o20 =>
          intro Q a w3 hC hV hI
          have e16 : a.eval (.tmp 16) = .int .i64 1 := hV 16 (by simp [Op.operands]) (by kernel_rfl)
          have g16 : a.tmps[16]?.getD undef = .int .i64 1 := by rw [← Array.getD_eq_getD_getElem?]; exact e16
          have e19 : a.eval (.tmp 19) = .int .i64 2 := hV 19 (by simp [Op.operands]) (by kernel_rfl)
          have g19 : a.tmps[19]?.getD undef = .int .i64 2 := by rw [← Array.getD_eq_getD_getElem?]; exact e19
          have q := HCut.out
          refine op_val (.string kc) ?_ hC (Below.refl _ _) (by intro d hd; cases hd; rfl)
          (clear hV hI hC; go_simp <;> (first | rfl | simp))
        case o21 =>
          intro Q a w3 hC hV hI
          have e3 : a.eval (.tmp 3) = .string tm := (hI 3 (by simp [Op.operands]) (by kernel_rfl)).trans rfl
          have g3 : a.tmps[3]?.getD undef = .string tm := by rw [← Array.getD_eq_getD_getElem?]; exact e3
          refine op_val (.string tm) ?_ hC (Below.refl _ _) (by intro d hd; cases hd; rfl)
          (clear hV hI hC; go_simp <;> (first | rfl | simp))
        case o22 =>
          intro Q a w3 hC hV hI
          have e1 : a.eval (.tmp 1) = .pointer (some ⟨w.heap.size, 0, none⟩) := (hI 1 (by simp [Op.operands]) (by kernel_rfl)).trans rfl
          have g1 : a.tmps[1]?.getD undef = .pointer (some ⟨w.heap.size, 0, none⟩) := by rw [← Array.getD_eq_getD_getElem?]; exact e1
          refine op_val (.pointer (some ⟨w.heap.size, 4, none⟩)) ?_ hC (Below.refl _ _) (by intro d hd; cases hd; rfl)
          (clear hV hI hC; go_simp <;> (first | rfl | simp))
        case o23 =>
          intro Q a w3 hC hV hI
          have e22 : a.eval (.tmp 22) = .pointer (some ⟨w.heap.size, 4, none⟩) := hV 22 (by simp [Op.operands]) (by kernel_rfl)
          have g22 : a.tmps[22]?.getD undef = .pointer (some ⟨w.heap.size, 4, none⟩) := by rw [← Array.getD_eq_getD_getElem?]; exact e22
          obtain ⟨d0, d1, d4, d5, d6, d7, d8, d9⟩ := KC.out w3 hC
          refine op_val (.int .i64 u) ?_ hC (Below.refl _ _) (by intro d hd; cases hd; rfl)
          (clear hV hI hC; go_simp <;> (first | rfl | simp))
        case o24 =>
          intro Q a w3 hC hV hI
          have e23 : a.eval (.tmp 23) = .int .i64 u := hV 23 (by simp [Op.operands, Call.operands]) (by kernel_rfl)
          have g23 : a.tmps[23]?.getD undef = .int .i64 u := by rw [← Array.getD_eq_getD_getElem?]; exact e23
          refine op_call (f := 20) (args := #[.int .i64 u]) (R := fun v y => v = .string tu ∧ Below w3.heap.size w3 y) ?_ ((HU.out w3 (T1.out.below hC)).mono ?_) ?_
          · (clear hV hI hC; go_simp <;> (first | rfl | simp))
          · rintro e y ⟨rfl, hb⟩; exact ⟨_, rfl, rfl, hb⟩
          · rintro v y ⟨rfl, hb⟩; exact ⟨btE hC hb, hb, by intro d hd; cases hd; rfl⟩
        case o25 =>
          intro Q a w3 hC hV hI
          have e1 : a.eval (.tmp 1) = .pointer (some ⟨w.heap.size, 0, none⟩) := (hI 1 (by simp [Op.operands]) (by kernel_rfl)).trans rfl
          have g1 : a.tmps[1]?.getD undef = .pointer (some ⟨w.heap.size, 0, none⟩) := by rw [← Array.getD_eq_getD_getElem?]; exact e1
          refine op_val (.pointer (some ⟨w.heap.size, 5, none⟩)) ?_ hC (Below.refl _ _) (by intro d hd; cases hd; rfl)
          (clear hV hI hC; go_simp <;> (first | rfl | simp))
        case o26 =>
          intro Q a w3 hC hV hI
          have e25 : a.eval (.tmp 25) = .pointer (some ⟨w.heap.size, 5, none⟩) := hV 25 (by simp [Op.operands]) (by kernel_rfl)
          have g25 : a.tmps[25]?.getD undef = .pointer (some ⟨w.heap.size, 5, none⟩) := by rw [← Array.getD_eq_getD_getElem?]; exact e25
          obtain ⟨d0, d1, d4, d5, d6, d7, d8, d9⟩ := KC.out w3 hC
          refine op_val (.int .i64 g) ?_ hC (Below.refl _ _) (by intro d hd; cases hd; rfl)
          (clear hV hI hC; go_simp <;> (first | rfl | simp))
        case o27 =>
          intro Q a w3 hC hV hI
          have e26 : a.eval (.tmp 26) = .int .i64 g := hV 26 (by simp [Op.operands, Call.operands]) (by kernel_rfl)
          have g26 : a.tmps[26]?.getD undef = .int .i64 g := by rw [← Array.getD_eq_getD_getElem?]; exact e26
          refine op_call (f := 20) (args := #[.int .i64 g]) (R := fun v y => v = .string tg ∧ Below w3.heap.size w3 y) ?_ ((HGd.out w3 (T1.out.below hC)).mono ?_) ?_
          · (clear hV hI hC; go_simp <;> (first | rfl | simp))
          · rintro e y ⟨rfl, hb⟩; exact ⟨_, rfl, rfl, hb⟩
          · rintro v y ⟨rfl, hb⟩; exact ⟨btE hC hb, hb, by intro d hd; cases hd; rfl⟩
        case o28 =>
          intro Q a w3 hC hV hI
          have e1 : a.eval (.tmp 1) = .pointer (some ⟨w.heap.size, 0, none⟩) := (hI 1 (by simp [Op.operands]) (by kernel_rfl)).trans rfl
          have g1 : a.tmps[1]?.getD undef = .pointer (some ⟨w.heap.size, 0, none⟩) := by rw [← Array.getD_eq_getD_getElem?]; exact e1
          refine op_val (.pointer (some ⟨w.heap.size, 6, none⟩)) ?_ hC (Below.refl _ _) (by intro d hd; cases hd; rfl)
          (clear hV hI hC; go_simp <;> (first | rfl | simp))
        case o29 =>
          intro Q a w3 hC hV hI
          have e28 : a.eval (.tmp 28) = .pointer (some ⟨w.heap.size, 6, none⟩) := hV 28 (by simp [Op.operands]) (by kernel_rfl)
          have g28 : a.tmps[28]?.getD undef = .pointer (some ⟨w.heap.size, 6, none⟩) := by rw [← Array.getD_eq_getD_getElem?]; exact e28
          obtain ⟨d0, d1, d4, d5, d6, d7, d8, d9⟩ := KC.out w3 hC
          refine op_val (.int .i64 t) ?_ hC (Below.refl _ _) (by intro d hd; cases hd; rfl)
          (clear hV hI hC; go_simp <;> (first | rfl | simp))
        case o30 =>
          intro Q a w3 hC hV hI
          have e29 : a.eval (.tmp 29) = .int .i64 t := hV 29 (by simp [Op.operands, Call.operands]) (by kernel_rfl)
          have g29 : a.tmps[29]?.getD undef = .int .i64 t := by rw [← Array.getD_eq_getD_getElem?]; exact e29
          refine op_call (f := 20) (args := #[.int .i64 t]) (R := fun v y => v = .string tt ∧ Below w3.heap.size w3 y) ?_ ((HT.out w3 (T1.out.below hC)).mono ?_) ?_
          · (clear hV hI hC; go_simp <;> (first | rfl | simp))
          · rintro e y ⟨rfl, hb⟩; exact ⟨_, rfl, rfl, hb⟩
          · rintro v y ⟨rfl, hb⟩; exact ⟨btE hC hb, hb, by intro d hd; cases hd; rfl⟩
        case o31 =>
          intro Q a w3 hC hV hI
          have e1 : a.eval (.tmp 1) = .pointer (some ⟨w.heap.size, 0, none⟩) := (hI 1 (by simp [Op.operands]) (by kernel_rfl)).trans rfl
          have g1 : a.tmps[1]?.getD undef = .pointer (some ⟨w.heap.size, 0, none⟩) := by rw [← Array.getD_eq_getD_getElem?]; exact e1
          refine op_val (.pointer (some ⟨w.heap.size, 7, none⟩)) ?_ hC (Below.refl _ _) (by intro d hd; cases hd; rfl)
          (clear hV hI hC; go_simp <;> (first | rfl | simp))
        case o32 =>
          intro Q a w3 hC hV hI
          have e31 : a.eval (.tmp 31) = .pointer (some ⟨w.heap.size, 7, none⟩) := hV 31 (by simp [Op.operands]) (by kernel_rfl)
          have g31 : a.tmps[31]?.getD undef = .pointer (some ⟨w.heap.size, 7, none⟩) := by rw [← Array.getD_eq_getD_getElem?]; exact e31
          obtain ⟨d0, d1, d4, d5, d6, d7, d8, d9⟩ := KC.out w3 hC
          refine op_val (.string us) ?_ hC (Below.refl _ _) (by intro d hd; cases hd; rfl)
          (clear hV hI hC; go_simp <;> (first | rfl | simp))
        case o33 =>
          intro Q a w3 hC hV hI
          have e32 : a.eval (.tmp 32) = .string us := hV 32 (by simp [Op.operands]) (by kernel_rfl)
          have g32 : a.tmps[32]?.getD undef = .string us := by rw [← Array.getD_eq_getD_getElem?]; exact e32
          refine op_val (.slice (some ⟨w3.heap.size, 0, none⟩) 2 2) (w' := w3.alloc (.cells #[.string us, .string ⟨#[45]⟩] 9)) ?_ (hC.alloc hC.size _) ((Below.refl _ _).alloc (Nat.le_refl _) _) ?_
          · (clear hV hI hC; go_simp <;> (first | rfl | simp))
          · intro d hd; cases hd; exact ⟨w3.heap.size, rfl, by simp, by simp⟩
        case o34 =>
          intro Q a w3 hC hV hI
          obtain ⟨G, e33, q0, q1⟩ : ∃ G, a.eval (.tmp 33) = .slice (some ⟨G, 0, none⟩) 2 2 ∧ w3.cell? ⟨G, 0, none⟩ = some (.string us) ∧ w3.cell? ⟨G, 1, none⟩ = some (.string ⟨#[45]⟩) := hV 33 (by simp [Op.operands, Call.operands]) (by kernel_rfl)
          have g33 : a.tmps[33]?.getD undef = .slice (some ⟨G, 0, none⟩) 2 2 := by rw [← Array.getD_eq_getD_getElem?]; exact e33
          refine op_call (f := 21) (args := #[.slice (some ⟨G, 0, none⟩) 2 2]) (R := fun v y => v = .string tus ∧ w3 = y) ?_ ((HUs.out G w3 q0 q1).mono ?_) ?_
          · (clear q0 q1); (clear hV hI hC; go_simp <;> (first | rfl | simp))
          · rintro e y ⟨rfl, rfl⟩; exact ⟨_, rfl, rfl, rfl⟩
          · rintro v y ⟨rfl, rfl⟩; exact ⟨hC, Below.refl _ _, by intro d hd; cases hd; rfl⟩
        case o35 =>
          intro Q a w3 hC hV hI
          have e1 : a.eval (.tmp 1) = .pointer (some ⟨w.heap.size, 0, none⟩) := (hI 1 (by simp [Op.operands]) (by kernel_rfl)).trans rfl
          have g1 : a.tmps[1]?.getD undef = .pointer (some ⟨w.heap.size, 0, none⟩) := by rw [← Array.getD_eq_getD_getElem?]; exact e1
          refine op_val (.pointer (some ⟨w.heap.size, 8, none⟩)) ?_ hC (Below.refl _ _) (by intro d hd; cases hd; rfl)
          (clear hV hI hC; go_simp <;> (first | rfl | simp))
        case o36 =>
          intro Q a w3 hC hV hI
          have e35 : a.eval (.tmp 35) = .pointer (some ⟨w.heap.size, 8, none⟩) := hV 35 (by simp [Op.operands]) (by kernel_rfl)
          have g35 : a.tmps[35]?.getD undef = .pointer (some ⟨w.heap.size, 8, none⟩) := by rw [← Array.getD_eq_getD_getElem?]; exact e35
          obtain ⟨d0, d1, d4, d5, d6, d7, d8, d9⟩ := KC.out w3 hC
          refine op_val (.string gr) ?_ hC (Below.refl _ _) (by intro d hd; cases hd; rfl)
          (clear hV hI hC; go_simp <;> (first | rfl | simp))
        case o37 =>
          intro Q a w3 hC hV hI
          have e36 : a.eval (.tmp 36) = .string gr := hV 36 (by simp [Op.operands]) (by kernel_rfl)
          have g36 : a.tmps[36]?.getD undef = .string gr := by rw [← Array.getD_eq_getD_getElem?]; exact e36
          refine op_val (.slice (some ⟨w3.heap.size, 0, none⟩) 2 2) (w' := w3.alloc (.cells #[.string gr, .string ⟨#[45]⟩] 9)) ?_ (hC.alloc hC.size _) ((Below.refl _ _).alloc (Nat.le_refl _) _) ?_
          · (clear hV hI hC; go_simp <;> (first | rfl | simp))
          · intro d hd; cases hd; exact ⟨w3.heap.size, rfl, by simp, by simp⟩
        case o38 =>
          intro Q a w3 hC hV hI
          obtain ⟨G, e37, q0, q1⟩ : ∃ G, a.eval (.tmp 37) = .slice (some ⟨G, 0, none⟩) 2 2 ∧ w3.cell? ⟨G, 0, none⟩ = some (.string gr) ∧ w3.cell? ⟨G, 1, none⟩ = some (.string ⟨#[45]⟩) := hV 37 (by simp [Op.operands, Call.operands]) (by kernel_rfl)
          have g37 : a.tmps[37]?.getD undef = .slice (some ⟨G, 0, none⟩) 2 2 := by rw [← Array.getD_eq_getD_getElem?]; exact e37
          refine op_call (f := 21) (args := #[.slice (some ⟨G, 0, none⟩) 2 2]) (R := fun v y => v = .string tgr ∧ w3 = y) ?_ ((HGr.out G w3 q0 q1).mono ?_) ?_
          · (clear q0 q1); (clear hV hI hC; go_simp <;> (first | rfl | simp))
          · rintro e y ⟨rfl, rfl⟩; exact ⟨_, rfl, rfl, rfl⟩
          · rintro v y ⟨rfl, rfl⟩; exact ⟨hC, Below.refl _ _, by intro d hd; cases hd; rfl⟩
        case o39 =>
          intro Q a w3 hC hV hI
          have e1 : a.eval (.tmp 1) = .pointer (some ⟨w.heap.size, 0, none⟩) := (hI 1 (by simp [Op.operands]) (by kernel_rfl)).trans rfl
          have g1 : a.tmps[1]?.getD undef = .pointer (some ⟨w.heap.size, 0, none⟩) := by rw [← Array.getD_eq_getD_getElem?]; exact e1
          refine op_val (.pointer (some ⟨w.heap.size, 9, none⟩)) ?_ hC (Below.refl _ _) (by intro d hd; cases hd; rfl)
          (clear hV hI hC; go_simp <;> (first | rfl | simp))
        case o40 =>
          intro Q a w3 hC hV hI
          have e39 : a.eval (.tmp 39) = .pointer (some ⟨w.heap.size, 9, none⟩) := hV 39 (by simp [Op.operands]) (by kernel_rfl)
          have g39 : a.tmps[39]?.getD undef = .pointer (some ⟨w.heap.size, 9, none⟩) := by rw [← Array.getD_eq_getD_getElem?]; exact e39
          obtain ⟨d0, d1, d4, d5, d6, d7, d8, d9⟩ := KC.out w3 hC
          refine op_val (.string b) ?_ hC (Below.refl _ _) (by intro d hd; cases hd; rfl)
          (clear hV hI hC; go_simp <;> (first | rfl | simp))
        case o41 =>
          intro Q a w3 hC hV hI
          have e40 : a.eval (.tmp 40) = .string b := hV 40 (by simp [Op.operands, Call.operands]) (by kernel_rfl)
          have g40 : a.tmps[40]?.getD undef = .string b := by rw [← Array.getD_eq_getD_getElem?]; exact e40
          refine op_val (.int .i64 (b.size : Int)) ?_ hC (Below.refl _ _) (by intro d hd; cases hd; rfl)
          (clear hV hI hC; go_simp <;> (first | rfl | simp))
        case o42 =>
          intro Q a w3 hC hV hI
          have e41 : a.eval (.tmp 41) = .int .i64 (b.size : Int) := hV 41 (by simp [Op.operands, Call.operands]) (by kernel_rfl)
          have g41 : a.tmps[41]?.getD undef = .int .i64 (b.size : Int) := by rw [← Array.getD_eq_getD_getElem?]; exact e41
          refine op_call (f := 20) (args := #[.int .i64 (b.size : Int)]) (R := fun v y => v = .string tb ∧ Below w3.heap.size w3 y) ?_ ((HBd.out w3 (T1.out.below hC)).mono ?_) ?_
          · (clear hV hI hC; go_simp <;> (first | rfl | simp))
          · rintro e y ⟨rfl, hb⟩; exact ⟨_, rfl, rfl, hb⟩
          · rintro v y ⟨rfl, hb⟩; exact ⟨btE hC hb, hb, by intro d hd; cases hd; rfl⟩
        case o43 =>
          intro Q a w3 hC hV hI
          have e1 : a.eval (.tmp 1) = .pointer (some ⟨w.heap.size, 0, none⟩) := (hI 1 (by simp [Op.operands]) (by kernel_rfl)).trans rfl
          have g1 : a.tmps[1]?.getD undef = .pointer (some ⟨w.heap.size, 0, none⟩) := by rw [← Array.getD_eq_getD_getElem?]; exact e1
          refine op_val (.pointer (some ⟨w.heap.size, 1, none⟩)) ?_ hC (Below.refl _ _) (by intro d hd; cases hd; rfl)
          (clear hV hI hC; go_simp <;> (first | rfl | simp))
        case o44 =>
          intro Q a w3 hC hV hI
          have e43 : a.eval (.tmp 43) = .pointer (some ⟨w.heap.size, 1, none⟩) := hV 43 (by simp [Op.operands]) (by kernel_rfl)
          have g43 : a.tmps[43]?.getD undef = .pointer (some ⟨w.heap.size, 1, none⟩) := by rw [← Array.getD_eq_getD_getElem?]; exact e43
          obtain ⟨d0, d1, d4, d5, d6, d7, d8, d9⟩ := KC.out w3 hC
          refine op_val (.string p) ?_ hC (Below.refl _ _) (by intro d hd; cases hd; rfl)
          (clear hV hI hC; go_simp <;> (first | rfl | simp))
        case o45 =>
          intro Q a w3 hC hV hI
          have e20 : a.eval (.tmp 20) = .string kc := hV 20 (by simp [Op.operands]) (by kernel_rfl)
          have g20 : a.tmps[20]?.getD undef = .string kc := by rw [← Array.getD_eq_getD_getElem?]; exact e20
          have e21 : a.eval (.tmp 21) = .string tm := hV 21 (by simp [Op.operands]) (by kernel_rfl)
          have g21 : a.tmps[21]?.getD undef = .string tm := by rw [← Array.getD_eq_getD_getElem?]; exact e21
          have e24 : a.eval (.tmp 24) = .string tu := hV 24 (by simp [Op.operands]) (by kernel_rfl)
          have g24 : a.tmps[24]?.getD undef = .string tu := by rw [← Array.getD_eq_getD_getElem?]; exact e24
          have e27 : a.eval (.tmp 27) = .string tg := hV 27 (by simp [Op.operands]) (by kernel_rfl)
          have g27 : a.tmps[27]?.getD undef = .string tg := by rw [← Array.getD_eq_getD_getElem?]; exact e27
          have e30 : a.eval (.tmp 30) = .string tt := hV 30 (by simp [Op.operands]) (by kernel_rfl)
          have g30 : a.tmps[30]?.getD undef = .string tt := by rw [← Array.getD_eq_getD_getElem?]; exact e30
          have e34 : a.eval (.tmp 34) = .string tus := hV 34 (by simp [Op.operands]) (by kernel_rfl)
          have g34 : a.tmps[34]?.getD undef = .string tus := by rw [← Array.getD_eq_getD_getElem?]; exact e34
          have e38 : a.eval (.tmp 38) = .string tgr := hV 38 (by simp [Op.operands]) (by kernel_rfl)
          have g38 : a.tmps[38]?.getD undef = .string tgr := by rw [← Array.getD_eq_getD_getElem?]; exact e38
          have e42 : a.eval (.tmp 42) = .string tb := hV 42 (by simp [Op.operands]) (by kernel_rfl)
          have g42 : a.tmps[42]?.getD undef = .string tb := by rw [← Array.getD_eq_getD_getElem?]; exact e42
          have e44 : a.eval (.tmp 44) = .string p := hV 44 (by simp [Op.operands]) (by kernel_rfl)
          have g44 : a.tmps[44]?.getD undef = .string p := by rw [← Array.getD_eq_getD_getElem?]; exact e44
          refine op_val (.slice (some ⟨w3.heap.size, 0, none⟩) 9 9) (w' := w3.alloc (.cells #[.string kc, .string tm, .string tu, .string tg, .string tt, .string tus, .string tgr, .string tb, .string p] 9)) ?_ (hC.alloc hC.size _) ((Below.refl _ _).alloc (Nat.le_refl _) _) ?_
          · (clear hV hI hC; go_simp <;> (first | rfl | simp))
          · intro d hd; cases hd; exact ⟨World.ownsRow_lit w3 _ 9 hC.size (by simp only [maxLen]; omega) rfl, _, _, rfl⟩
        case o5 =>
          intro Q a w3 hC hV hI
          have e45 : OwnL w3 w2.heap.size (a.eval (.tmp 45)) [kc, tm, tu, tg, tt, tus, tgr, tb, p] := hV 45 (by simp [Op.operands]) (by kernel_rfl)
          obtain ⟨v45, q45⟩ : ∃ v, a.eval (.tmp 45) = v := ⟨_, rfl⟩
          rw [q45] at e45
          have g45 : a.tmps[45]?.getD undef = v45 := by rw [← Array.getD_eq_getD_getElem?]; exact q45
          refine op_val v45 ?_ hC (Below.refl _ _) (by intro d hd; cases hd; exact e45)
          (clear hV hI hC e45; go_simp <;> (first | rfl | simp))
      case hend =>
        intro f w3 hC hall
        replace E1 := Lib.hid (E1.out.below hC zb)
        have B2 := Lib.hid (btE B1.out hC)
        have zz := Nat.le_trans B1.out.size hC.size
        have zz2 := hC.size
        clear hC KC B1 T1
        simp only [List.forall_mem_cons] at hall
        obtain ⟨h15, h16, h17, h18, h19, h20, h21, h22, h23, h24, h25, h26, h27, h28, h29, h30, h31, h32, h33, h34, h35, h36, h37, h38, h39, h40, h41, h42, h43, h44, h45, h5, _⟩ := hall
        replace h15 : f 15 = .pointer (some ⟨w.heap.size, 0, none⟩) := h15 15 rfl
        replace h16 : f 16 = .int .i64 1 := h16 16 rfl
        replace h17 : f 17 = .pointer (some ⟨w.heap.size, 0, none⟩) := h17 17 rfl
        replace h18 : f 18 = .int .i64 1 := h18 18 rfl
        replace h19 : f 19 = .int .i64 2 := h19 19 rfl
        replace h20 : f 20 = .string kc := h20 20 rfl
        replace h21 : f 21 = .string tm := h21 21 rfl
        replace h22 : f 22 = .pointer (some ⟨w.heap.size, 4, none⟩) := h22 22 rfl
        replace h23 : f 23 = .int .i64 u := h23 23 rfl
        replace h24 : f 24 = .string tu := h24 24 rfl
        replace h25 : f 25 = .pointer (some ⟨w.heap.size, 5, none⟩) := h25 25 rfl
        replace h26 : f 26 = .int .i64 g := h26 26 rfl
        replace h27 : f 27 = .string tg := h27 27 rfl
        replace h28 : f 28 = .pointer (some ⟨w.heap.size, 6, none⟩) := h28 28 rfl
        replace h29 : f 29 = .int .i64 t := h29 29 rfl
        replace h30 : f 30 = .string tt := h30 30 rfl
        replace h31 : f 31 = .pointer (some ⟨w.heap.size, 7, none⟩) := h31 31 rfl
        replace h32 : f 32 = .string us := h32 32 rfl
        clear h33
        replace h34 : f 34 = .string tus := h34 34 rfl
        replace h35 : f 35 = .pointer (some ⟨w.heap.size, 8, none⟩) := h35 35 rfl
        replace h36 : f 36 = .string gr := h36 36 rfl
        clear h37
        replace h38 : f 38 = .string tgr := h38 38 rfl
        replace h39 : f 39 = .pointer (some ⟨w.heap.size, 9, none⟩) := h39 39 rfl
        replace h40 : f 40 = .string b := h40 40 rfl
        replace h41 : f 41 = .int .i64 (b.size : Int) := h41 41 rfl
        replace h42 : f 42 = .string tb := h42 42 rfl
        replace h43 : f 43 = .pointer (some ⟨w.heap.size, 1, none⟩) := h43 43 rfl
        replace h44 : f 44 = .string p := h44 44 rfl
        clear h45
        replace h5 : OwnL w3 w2.heap.size (f 5) [kc, tm, tu, tg, tt, tus, tgr, tb, p] := h5 5 rfl
        simp only [putAll, Act.put, List.setIfInBounds_toArray, List.set_cons_succ, List.set_cons_zero, h15, h16, h17, h18, h19, h20, h21, h22, h23, h24, h25, h26, h27, h28, h29, h30, h31, h32, h34, h35, h36, h38, h39, h40, h41, h42, h43, h44]
        generalize f 33 = v33
        generalize f 37 = v37
        generalize f 45 = v45
        generalize f 5 = v5 at h5 ⊢
        have ho := h5.1
        have hq : ∃ gw cw, v5 = .slice (some ⟨gw, 0, none⟩) 9 cw := h5.2
        obtain ⟨gw, cw, rfl⟩ := hq
        clear h5
        have O : Hid (w3.ownsRow w2.heap.size 9 1 (.slice (some ⟨gw, 0, none⟩) 9 cw) 9 (strVals [kc, tm, tu, tg, tt, tus, tgr, tb, p])) := Lib.hid ho
        clear ho
        clear h15 h16 h17 h18 h19 h20 h21 h22 h23 h24 h25 h26 h27 h28 h29 h30 h31 h32 h34 h35 h36 h38 h39 h40 h41 h42 h43 h44
        obtain ⟨c0, c1, c2, c3, c4, c5, c6, c7, c8, c9⟩ := E1.out.zero
        clear c0 c1 c3 c4 c5 c6 c7 c8 c9
        by_cases hl0 : l.size = 0
        · have q := empty_t hl0
          have HF := Lib.hid (HZ.out hl0)
          have HJ : Hid (Calls Tryd.prog 22 #[.slice (some ⟨gw, 0, none⟩) 9 cw, .string ⟨#[32]⟩] w3 fun e w' => e = .returned (.string (joinB [kc, tm, tu, tg, tt, tus, tgr, tb, p])) ∧ Below w3.heap.size w3 w') := Lib.hid (joinS [kc, tm, tu, tg, tt, tus, tgr, tb, p] gw cw w2.heap.size w3 HS1.out (by simp) O.out)
          skip
          clear hl0 HZ HL
          go_wp2_with fail
          refine HJ.out.mono ?_
          rintro e w4 ⟨rfl, hb⟩
          go_wp2_with fail
          go_ret
          exact ⟨ret_str HF.out.symm, btE B2.out hb⟩
        · have q := empty_f hl0
          have HF := Lib.hid (HL.out hl0)
          have HJ := Lib.hid (fun gw cw w h => joinS ([kc, tm, tu, tg, tt, tus, tgr, tb, p] ++ [⟨#[45, 62]⟩, l]) gw cw w2.heap.size w HS2.out (by simp) h)
          clear hl0 HZ HL
          go_wp2_with (at_builtin; refine wpList_append_own _ rfl _ _ 39 rfl w2.heap.size 9 i0 (.string ⟨#[]⟩) 1 16 Tryd.underlying39 hi0 hz0 hz1 hz2 rfl (by decide) _ 9 (strVals [kc, tm, tu, tg, tt, tus, tgr, tb, p]) rfl (World.ownsRow.alloc O.out _) ⟨w3.heap.size, 0, none⟩ 2 2 [.string ⟨#[45, 62]⟩, .string l] rfl rfl ?c1k1 ?c2k1 ?c3k1 ?c4k1 ?c5k1 ?_)
          case c2k1 => exact ⟨rfl, rfl⟩
          case c3k1 => simp only [maxLen]; decide
          case c5k1 => first | omega | (simp; omega)
          · intro v' w4 hown' hgrow hnil
            have hO : OwnL w4 w2.heap.size v' ([kc, tm, tu, tg, tt, tus, tgr, tb, p] ++ [⟨#[45, 62]⟩, l]) := own_two hown' hnil
            have hB : Below w.heap.size w w4 := (B2.out.alloc zz _).grown hgrow (by simp; omega) (fun b hb => by have := (World.ownsRow.lt O.out b hb).1; have := B2.out.size; simp only [Value.ownBlock, Option.some.injEq] at hb; omega)
            have ho := hO.1
            have hq : ∃ g c, v' = .slice (some ⟨g, 0, none⟩) 11 c := hO.2
            obtain ⟨g2, c2w, rfl⟩ := hq
            have O2 := Lib.hid ho
            clear hO
            have B3 := Lib.hid hB
            clear hown' hgrow hnil ho hB
            have HJ2 : Hid (Calls Tryd.prog 22 #[.slice (some ⟨g2, 0, none⟩) 11 c2w, .string ⟨#[32]⟩] w4 fun e w' => e = .returned (.string (joinB ([kc, tm, tu, tg, tt, tus, tgr, tb, p] ++ [⟨#[45, 62]⟩, l]))) ∧ Below w4.heap.size w4 w') := Lib.hid (HJ.out g2 c2w w4 O2.out)
            clear HJ
            go_wp2_with fail
            refine HJ2.out.mono ?_
            rintro e w5 ⟨rfl, hb⟩
            go_wp2_with fail
            go_ret
            exact ⟨ret_str HF.out.symm, btE B3.out hb⟩
    · obtain ⟨kc, hkc⟩ : ∃ kc : ByteArray, kc = ⟨#[108]⟩ := ⟨_, rfl⟩
      have HK : Hid (kindCh 2 = kc) := Lib.hid (by rw [hkc]; rfl)
      have zk : kc.size ≤ 1 := by rw [hkc]; decide
      rw [HK.out] at HZ HL
      have HS1 : Hid ((joinB [kc, tm, tu, tg, tt, tus, tgr, tb, p]).size ≤ 1000) := Lib.hid (by rw [← nine_join]; have zsp : (⟨#[32]⟩ : ByteArray).size = 1 := rfl; simp only [nineS, ByteArray.size_append]; omega)
      have HS2 : Hid ((joinB ([kc, tm, tu, tg, tt, tus, tgr, tb, p] ++ [⟨#[45, 62]⟩, l])).size ≤ 1000) := Lib.hid (by rw [← link_join]; have zsp : (⟨#[32]⟩ : ByteArray).size = 1 := rfl; have zlk : (⟨#[32, 45, 62, 32]⟩ : ByteArray).size = 4 := rfl; simp only [nineS, ByteArray.size_append]; omega)
      have HCut : Hid ((⟨#[102, 100, 108, 104]⟩ : ByteArray).extract 2 3 = kc) := Lib.hid (by rw [hkc]; rfl)
      have HKC := Lib.hid hkc
      clear hkc
      go_enter Tryd.func8, Tryd.ntmps8
      go_wp2_with fail
      refine (HO.out _).mono ?_
      rintro e w1 ⟨rfl, hb⟩
      obtain ⟨k1, bb, zb⟩ := one_new (e1 := ⟨_, p, l, m, u, g, t, us, gr, b⟩) hb
      have E1 := Lib.hid k1
      have B1 := Lib.hid bb
      have T1 := Lib.hid (HTab.out.below bb)
      clear hb k1 bb HO HTab
      obtain ⟨c0, c1, c2, c3, c4, c5, c6, c7, c8, c9⟩ := E1.out.zero
      go_wp2_with fail
      refine (HM.out _ T1.out).mono ?_
      rintro e w2 ⟨rfl, hb⟩
      replace E1 := Lib.hid (E1.out.below hb zb)
      replace B1 := Lib.hid (btE B1.out hb)
      replace T1 := Lib.hid (T1.out.below hb)
      replace zb := Nat.lt_of_lt_of_le zb hb.size
      clear hb HM c0 c1 c2 c3 c4 c5 c6 c7 c8 c9
      obtain ⟨c0, c1, c2, c3, c4, c5, c6, c7, c8, c9⟩ := E1.out.zero
      go_wp2_with fail
      have KC : Hid (∀ w', Below w2.heap.size w2 w' → w'.cell? ⟨w.heap.size, 0, none⟩ = some (.int .i64 2) ∧ w'.cell? ⟨w.heap.size, 1, none⟩ = some (.string p) ∧ w'.cell? ⟨w.heap.size, 4, none⟩ = some (.int .i64 u) ∧ w'.cell? ⟨w.heap.size, 5, none⟩ = some (.int .i64 g) ∧ w'.cell? ⟨w.heap.size, 6, none⟩ = some (.int .i64 t) ∧ w'.cell? ⟨w.heap.size, 7, none⟩ = some (.string us) ∧ w'.cell? ⟨w.heap.size, 8, none⟩ = some (.string gr) ∧ w'.cell? ⟨w.heap.size, 9, none⟩ = some (.string b)) := Lib.hid (fun w' hb => ⟨(hb.cell (p := ⟨w.heap.size, 0, none⟩) zb).trans c0, (hb.cell (p := ⟨w.heap.size, 1, none⟩) zb).trans c1, (hb.cell (p := ⟨w.heap.size, 4, none⟩) zb).trans c4, (hb.cell (p := ⟨w.heap.size, 5, none⟩) zb).trans c5, (hb.cell (p := ⟨w.heap.size, 6, none⟩) zb).trans c6, (hb.cell (p := ⟨w.heap.size, 7, none⟩) zb).trans c7, (hb.cell (p := ⟨w.heap.size, 8, none⟩) zb).trans c8, (hb.cell (p := ⟨w.heap.size, 9, none⟩) zb).trans c9⟩)
      clear c0 c1 c2 c3 c4 c5 c6 c7 c8 c9
      refine wp_region_inv (by kernel_rfl) (fun w' => Below w2.heap.size w2 w') (fun x y => Below x.heap.size x y) (wordV w.heap.size 2 3 kc p tm u g t us gr b tu tg tt tus tgr tb w2.heap.size) (by kernel_rfl) (kd0 w2) (wordV_keep _ _ _ _ _ _ _ _ _ _ _ _ _ _ _ _ _ _ _) ?hops ?hend
      case hops =>
        simp only [List.forall_mem_cons]
        refine ⟨?o15, ?o16, ?o17, ?o18, ?o19, ?o20, ?o21, ?o22, ?o23, ?o24, ?o25, ?o26, ?o27, ?o28, ?o29, ?o30, ?o31, ?o32, ?o33, ?o34, ?o35, ?o36, ?o37, ?o38, ?o39, ?o40, ?o41, ?o42, ?o43, ?o44, ?o45, ?o5, fun _ h => by cases h⟩
        case o15 =>
          intro Q a w3 hC hV hI
          have e1 : a.eval (.tmp 1) = .pointer (some ⟨w.heap.size, 0, none⟩) := (hI 1 (by simp [Op.operands]) (by kernel_rfl)).trans rfl
          have g1 : a.tmps[1]?.getD undef = .pointer (some ⟨w.heap.size, 0, none⟩) := by rw [← Array.getD_eq_getD_getElem?]; exact e1
          refine op_val (.pointer (some ⟨w.heap.size, 0, none⟩)) ?_ hC (Below.refl _ _) (by intro d hd; cases hd; rfl)
          (clear hV hI hC; go_simp <;> (first | rfl | simp))
        case o16 =>
          intro Q a w3 hC hV hI
          have e15 : a.eval (.tmp 15) = .pointer (some ⟨w.heap.size, 0, none⟩) := hV 15 (by simp [Op.operands]) (by kernel_rfl)
          have g15 : a.tmps[15]?.getD undef = .pointer (some ⟨w.heap.size, 0, none⟩) := by rw [← Array.getD_eq_getD_getElem?]; exact e15
          obtain ⟨d0, d1, d4, d5, d6, d7, d8, d9⟩ := KC.out w3 hC
          refine op_val (.int .i64 2) ?_ hC (Below.refl _ _) (by intro d hd; cases hd; rfl)
          (clear hV hI hC; go_simp <;> (first | rfl | simp))
        case o17 =>
          intro Q a w3 hC hV hI
          have e1 : a.eval (.tmp 1) = .pointer (some ⟨w.heap.size, 0, none⟩) := (hI 1 (by simp [Op.operands]) (by kernel_rfl)).trans rfl
          have g1 : a.tmps[1]?.getD undef = .pointer (some ⟨w.heap.size, 0, none⟩) := by rw [← Array.getD_eq_getD_getElem?]; exact e1
          refine op_val (.pointer (some ⟨w.heap.size, 0, none⟩)) ?_ hC (Below.refl _ _) (by intro d hd; cases hd; rfl)
          (clear hV hI hC; go_simp <;> (first | rfl | simp))
        case o18 =>
          intro Q a w3 hC hV hI
          have e17 : a.eval (.tmp 17) = .pointer (some ⟨w.heap.size, 0, none⟩) := hV 17 (by simp [Op.operands]) (by kernel_rfl)
          have g17 : a.tmps[17]?.getD undef = .pointer (some ⟨w.heap.size, 0, none⟩) := by rw [← Array.getD_eq_getD_getElem?]; exact e17
          obtain ⟨d0, d1, d4, d5, d6, d7, d8, d9⟩ := KC.out w3 hC
          refine op_val (.int .i64 2) ?_ hC (Below.refl _ _) (by intro d hd; cases hd; rfl)
          (clear hV hI hC; go_simp <;> (first | rfl | simp))
        case o19 =>
          intro Q a w3 hC hV hI
          have e18 : a.eval (.tmp 18) = .int .i64 2 := hV 18 (by simp [Op.operands]) (by kernel_rfl)
          have g18 : a.tmps[18]?.getD undef = .int .i64 2 := by rw [← Array.getD_eq_getD_getElem?]; exact e18
          refine op_val (.int .i64 3) ?_ hC (Below.refl _ _) (by intro d hd; cases hd; rfl)
          (clear hV hI hC; go_simp <;> (first | rfl | simp))
        case o20 =>
          intro Q a w3 hC hV hI
          have e16 : a.eval (.tmp 16) = .int .i64 2 := hV 16 (by simp [Op.operands]) (by kernel_rfl)
          have g16 : a.tmps[16]?.getD undef = .int .i64 2 := by rw [← Array.getD_eq_getD_getElem?]; exact e16
          have e19 : a.eval (.tmp 19) = .int .i64 3 := hV 19 (by simp [Op.operands]) (by kernel_rfl)
          have g19 : a.tmps[19]?.getD undef = .int .i64 3 := by rw [← Array.getD_eq_getD_getElem?]; exact e19
          have q := HCut.out
          refine op_val (.string kc) ?_ hC (Below.refl _ _) (by intro d hd; cases hd; rfl)
          (clear hV hI hC; go_simp <;> (first | rfl | simp))
        case o21 =>
          intro Q a w3 hC hV hI
          have e3 : a.eval (.tmp 3) = .string tm := (hI 3 (by simp [Op.operands]) (by kernel_rfl)).trans rfl
          have g3 : a.tmps[3]?.getD undef = .string tm := by rw [← Array.getD_eq_getD_getElem?]; exact e3
          refine op_val (.string tm) ?_ hC (Below.refl _ _) (by intro d hd; cases hd; rfl)
          (clear hV hI hC; go_simp <;> (first | rfl | simp))
        case o22 =>
          intro Q a w3 hC hV hI
          have e1 : a.eval (.tmp 1) = .pointer (some ⟨w.heap.size, 0, none⟩) := (hI 1 (by simp [Op.operands]) (by kernel_rfl)).trans rfl
          have g1 : a.tmps[1]?.getD undef = .pointer (some ⟨w.heap.size, 0, none⟩) := by rw [← Array.getD_eq_getD_getElem?]; exact e1
          refine op_val (.pointer (some ⟨w.heap.size, 4, none⟩)) ?_ hC (Below.refl _ _) (by intro d hd; cases hd; rfl)
          (clear hV hI hC; go_simp <;> (first | rfl | simp))
        case o23 =>
          intro Q a w3 hC hV hI
          have e22 : a.eval (.tmp 22) = .pointer (some ⟨w.heap.size, 4, none⟩) := hV 22 (by simp [Op.operands]) (by kernel_rfl)
          have g22 : a.tmps[22]?.getD undef = .pointer (some ⟨w.heap.size, 4, none⟩) := by rw [← Array.getD_eq_getD_getElem?]; exact e22
          obtain ⟨d0, d1, d4, d5, d6, d7, d8, d9⟩ := KC.out w3 hC
          refine op_val (.int .i64 u) ?_ hC (Below.refl _ _) (by intro d hd; cases hd; rfl)
          (clear hV hI hC; go_simp <;> (first | rfl | simp))
        case o24 =>
          intro Q a w3 hC hV hI
          have e23 : a.eval (.tmp 23) = .int .i64 u := hV 23 (by simp [Op.operands, Call.operands]) (by kernel_rfl)
          have g23 : a.tmps[23]?.getD undef = .int .i64 u := by rw [← Array.getD_eq_getD_getElem?]; exact e23
          refine op_call (f := 20) (args := #[.int .i64 u]) (R := fun v y => v = .string tu ∧ Below w3.heap.size w3 y) ?_ ((HU.out w3 (T1.out.below hC)).mono ?_) ?_
          · (clear hV hI hC; go_simp <;> (first | rfl | simp))
          · rintro e y ⟨rfl, hb⟩; exact ⟨_, rfl, rfl, hb⟩
          · rintro v y ⟨rfl, hb⟩; exact ⟨btE hC hb, hb, by intro d hd; cases hd; rfl⟩
        case o25 =>
          intro Q a w3 hC hV hI
          have e1 : a.eval (.tmp 1) = .pointer (some ⟨w.heap.size, 0, none⟩) := (hI 1 (by simp [Op.operands]) (by kernel_rfl)).trans rfl
          have g1 : a.tmps[1]?.getD undef = .pointer (some ⟨w.heap.size, 0, none⟩) := by rw [← Array.getD_eq_getD_getElem?]; exact e1
          refine op_val (.pointer (some ⟨w.heap.size, 5, none⟩)) ?_ hC (Below.refl _ _) (by intro d hd; cases hd; rfl)
          (clear hV hI hC; go_simp <;> (first | rfl | simp))
        case o26 =>
          intro Q a w3 hC hV hI
          have e25 : a.eval (.tmp 25) = .pointer (some ⟨w.heap.size, 5, none⟩) := hV 25 (by simp [Op.operands]) (by kernel_rfl)
          have g25 : a.tmps[25]?.getD undef = .pointer (some ⟨w.heap.size, 5, none⟩) := by rw [← Array.getD_eq_getD_getElem?]; exact e25
          obtain ⟨d0, d1, d4, d5, d6, d7, d8, d9⟩ := KC.out w3 hC
          refine op_val (.int .i64 g) ?_ hC (Below.refl _ _) (by intro d hd; cases hd; rfl)
          (clear hV hI hC; go_simp <;> (first | rfl | simp))
        case o27 =>
          intro Q a w3 hC hV hI
          have e26 : a.eval (.tmp 26) = .int .i64 g := hV 26 (by simp [Op.operands, Call.operands]) (by kernel_rfl)
          have g26 : a.tmps[26]?.getD undef = .int .i64 g := by rw [← Array.getD_eq_getD_getElem?]; exact e26
          refine op_call (f := 20) (args := #[.int .i64 g]) (R := fun v y => v = .string tg ∧ Below w3.heap.size w3 y) ?_ ((HGd.out w3 (T1.out.below hC)).mono ?_) ?_
          · (clear hV hI hC; go_simp <;> (first | rfl | simp))
          · rintro e y ⟨rfl, hb⟩; exact ⟨_, rfl, rfl, hb⟩
          · rintro v y ⟨rfl, hb⟩; exact ⟨btE hC hb, hb, by intro d hd; cases hd; rfl⟩
        case o28 =>
          intro Q a w3 hC hV hI
          have e1 : a.eval (.tmp 1) = .pointer (some ⟨w.heap.size, 0, none⟩) := (hI 1 (by simp [Op.operands]) (by kernel_rfl)).trans rfl
          have g1 : a.tmps[1]?.getD undef = .pointer (some ⟨w.heap.size, 0, none⟩) := by rw [← Array.getD_eq_getD_getElem?]; exact e1
          refine op_val (.pointer (some ⟨w.heap.size, 6, none⟩)) ?_ hC (Below.refl _ _) (by intro d hd; cases hd; rfl)
          (clear hV hI hC; go_simp <;> (first | rfl | simp))
        case o29 =>
          intro Q a w3 hC hV hI
          have e28 : a.eval (.tmp 28) = .pointer (some ⟨w.heap.size, 6, none⟩) := hV 28 (by simp [Op.operands]) (by kernel_rfl)
          have g28 : a.tmps[28]?.getD undef = .pointer (some ⟨w.heap.size, 6, none⟩) := by rw [← Array.getD_eq_getD_getElem?]; exact e28
          obtain ⟨d0, d1, d4, d5, d6, d7, d8, d9⟩ := KC.out w3 hC
          refine op_val (.int .i64 t) ?_ hC (Below.refl _ _) (by intro d hd; cases hd; rfl)
          (clear hV hI hC; go_simp <;> (first | rfl | simp))
        case o30 =>
          intro Q a w3 hC hV hI
          have e29 : a.eval (.tmp 29) = .int .i64 t := hV 29 (by simp [Op.operands, Call.operands]) (by kernel_rfl)
          have g29 : a.tmps[29]?.getD undef = .int .i64 t := by rw [← Array.getD_eq_getD_getElem?]; exact e29
          refine op_call (f := 20) (args := #[.int .i64 t]) (R := fun v y => v = .string tt ∧ Below w3.heap.size w3 y) ?_ ((HT.out w3 (T1.out.below hC)).mono ?_) ?_
          · (clear hV hI hC; go_simp <;> (first | rfl | simp))
          · rintro e y ⟨rfl, hb⟩; exact ⟨_, rfl, rfl, hb⟩
          · rintro v y ⟨rfl, hb⟩; exact ⟨btE hC hb, hb, by intro d hd; cases hd; rfl⟩
        case o31 =>
          intro Q a w3 hC hV hI
          have e1 : a.eval (.tmp 1) = .pointer (some ⟨w.heap.size, 0, none⟩) := (hI 1 (by simp [Op.operands]) (by kernel_rfl)).trans rfl
          have g1 : a.tmps[1]?.getD undef = .pointer (some ⟨w.heap.size, 0, none⟩) := by rw [← Array.getD_eq_getD_getElem?]; exact e1
          refine op_val (.pointer (some ⟨w.heap.size, 7, none⟩)) ?_ hC (Below.refl _ _) (by intro d hd; cases hd; rfl)
          (clear hV hI hC; go_simp <;> (first | rfl | simp))
        case o32 =>
          intro Q a w3 hC hV hI
          have e31 : a.eval (.tmp 31) = .pointer (some ⟨w.heap.size, 7, none⟩) := hV 31 (by simp [Op.operands]) (by kernel_rfl)
          have g31 : a.tmps[31]?.getD undef = .pointer (some ⟨w.heap.size, 7, none⟩) := by rw [← Array.getD_eq_getD_getElem?]; exact e31
          obtain ⟨d0, d1, d4, d5, d6, d7, d8, d9⟩ := KC.out w3 hC
          refine op_val (.string us) ?_ hC (Below.refl _ _) (by intro d hd; cases hd; rfl)
          (clear hV hI hC; go_simp <;> (first | rfl | simp))
        case o33 =>
          intro Q a w3 hC hV hI
          have e32 : a.eval (.tmp 32) = .string us := hV 32 (by simp [Op.operands]) (by kernel_rfl)
          have g32 : a.tmps[32]?.getD undef = .string us := by rw [← Array.getD_eq_getD_getElem?]; exact e32
          refine op_val (.slice (some ⟨w3.heap.size, 0, none⟩) 2 2) (w' := w3.alloc (.cells #[.string us, .string ⟨#[45]⟩] 9)) ?_ (hC.alloc hC.size _) ((Below.refl _ _).alloc (Nat.le_refl _) _) ?_
          · (clear hV hI hC; go_simp <;> (first | rfl | simp))
          · intro d hd; cases hd; exact ⟨w3.heap.size, rfl, by simp, by simp⟩
        case o34 =>
          intro Q a w3 hC hV hI
          obtain ⟨G, e33, q0, q1⟩ : ∃ G, a.eval (.tmp 33) = .slice (some ⟨G, 0, none⟩) 2 2 ∧ w3.cell? ⟨G, 0, none⟩ = some (.string us) ∧ w3.cell? ⟨G, 1, none⟩ = some (.string ⟨#[45]⟩) := hV 33 (by simp [Op.operands, Call.operands]) (by kernel_rfl)
          have g33 : a.tmps[33]?.getD undef = .slice (some ⟨G, 0, none⟩) 2 2 := by rw [← Array.getD_eq_getD_getElem?]; exact e33
          refine op_call (f := 21) (args := #[.slice (some ⟨G, 0, none⟩) 2 2]) (R := fun v y => v = .string tus ∧ w3 = y) ?_ ((HUs.out G w3 q0 q1).mono ?_) ?_
          · (clear q0 q1); (clear hV hI hC; go_simp <;> (first | rfl | simp))
          · rintro e y ⟨rfl, rfl⟩; exact ⟨_, rfl, rfl, rfl⟩
          · rintro v y ⟨rfl, rfl⟩; exact ⟨hC, Below.refl _ _, by intro d hd; cases hd; rfl⟩
        case o35 =>
          intro Q a w3 hC hV hI
          have e1 : a.eval (.tmp 1) = .pointer (some ⟨w.heap.size, 0, none⟩) := (hI 1 (by simp [Op.operands]) (by kernel_rfl)).trans rfl
          have g1 : a.tmps[1]?.getD undef = .pointer (some ⟨w.heap.size, 0, none⟩) := by rw [← Array.getD_eq_getD_getElem?]; exact e1
          refine op_val (.pointer (some ⟨w.heap.size, 8, none⟩)) ?_ hC (Below.refl _ _) (by intro d hd; cases hd; rfl)
          (clear hV hI hC; go_simp <;> (first | rfl | simp))
        case o36 =>
          intro Q a w3 hC hV hI
          have e35 : a.eval (.tmp 35) = .pointer (some ⟨w.heap.size, 8, none⟩) := hV 35 (by simp [Op.operands]) (by kernel_rfl)
          have g35 : a.tmps[35]?.getD undef = .pointer (some ⟨w.heap.size, 8, none⟩) := by rw [← Array.getD_eq_getD_getElem?]; exact e35
          obtain ⟨d0, d1, d4, d5, d6, d7, d8, d9⟩ := KC.out w3 hC
          refine op_val (.string gr) ?_ hC (Below.refl _ _) (by intro d hd; cases hd; rfl)
          (clear hV hI hC; go_simp <;> (first | rfl | simp))
        case o37 =>
          intro Q a w3 hC hV hI
          have e36 : a.eval (.tmp 36) = .string gr := hV 36 (by simp [Op.operands]) (by kernel_rfl)
          have g36 : a.tmps[36]?.getD undef = .string gr := by rw [← Array.getD_eq_getD_getElem?]; exact e36
          refine op_val (.slice (some ⟨w3.heap.size, 0, none⟩) 2 2) (w' := w3.alloc (.cells #[.string gr, .string ⟨#[45]⟩] 9)) ?_ (hC.alloc hC.size _) ((Below.refl _ _).alloc (Nat.le_refl _) _) ?_
          · (clear hV hI hC; go_simp <;> (first | rfl | simp))
          · intro d hd; cases hd; exact ⟨w3.heap.size, rfl, by simp, by simp⟩
        case o38 =>
          intro Q a w3 hC hV hI
          obtain ⟨G, e37, q0, q1⟩ : ∃ G, a.eval (.tmp 37) = .slice (some ⟨G, 0, none⟩) 2 2 ∧ w3.cell? ⟨G, 0, none⟩ = some (.string gr) ∧ w3.cell? ⟨G, 1, none⟩ = some (.string ⟨#[45]⟩) := hV 37 (by simp [Op.operands, Call.operands]) (by kernel_rfl)
          have g37 : a.tmps[37]?.getD undef = .slice (some ⟨G, 0, none⟩) 2 2 := by rw [← Array.getD_eq_getD_getElem?]; exact e37
          refine op_call (f := 21) (args := #[.slice (some ⟨G, 0, none⟩) 2 2]) (R := fun v y => v = .string tgr ∧ w3 = y) ?_ ((HGr.out G w3 q0 q1).mono ?_) ?_
          · (clear q0 q1); (clear hV hI hC; go_simp <;> (first | rfl | simp))
          · rintro e y ⟨rfl, rfl⟩; exact ⟨_, rfl, rfl, rfl⟩
          · rintro v y ⟨rfl, rfl⟩; exact ⟨hC, Below.refl _ _, by intro d hd; cases hd; rfl⟩
        case o39 =>
          intro Q a w3 hC hV hI
          have e1 : a.eval (.tmp 1) = .pointer (some ⟨w.heap.size, 0, none⟩) := (hI 1 (by simp [Op.operands]) (by kernel_rfl)).trans rfl
          have g1 : a.tmps[1]?.getD undef = .pointer (some ⟨w.heap.size, 0, none⟩) := by rw [← Array.getD_eq_getD_getElem?]; exact e1
          refine op_val (.pointer (some ⟨w.heap.size, 9, none⟩)) ?_ hC (Below.refl _ _) (by intro d hd; cases hd; rfl)
          (clear hV hI hC; go_simp <;> (first | rfl | simp))
        case o40 =>
          intro Q a w3 hC hV hI
          have e39 : a.eval (.tmp 39) = .pointer (some ⟨w.heap.size, 9, none⟩) := hV 39 (by simp [Op.operands]) (by kernel_rfl)
          have g39 : a.tmps[39]?.getD undef = .pointer (some ⟨w.heap.size, 9, none⟩) := by rw [← Array.getD_eq_getD_getElem?]; exact e39
          obtain ⟨d0, d1, d4, d5, d6, d7, d8, d9⟩ := KC.out w3 hC
          refine op_val (.string b) ?_ hC (Below.refl _ _) (by intro d hd; cases hd; rfl)
          (clear hV hI hC; go_simp <;> (first | rfl | simp))
        case o41 =>
          intro Q a w3 hC hV hI
          have e40 : a.eval (.tmp 40) = .string b := hV 40 (by simp [Op.operands, Call.operands]) (by kernel_rfl)
          have g40 : a.tmps[40]?.getD undef = .string b := by rw [← Array.getD_eq_getD_getElem?]; exact e40
          refine op_val (.int .i64 (b.size : Int)) ?_ hC (Below.refl _ _) (by intro d hd; cases hd; rfl)
          (clear hV hI hC; go_simp <;> (first | rfl | simp))
        case o42 =>
          intro Q a w3 hC hV hI
          have e41 : a.eval (.tmp 41) = .int .i64 (b.size : Int) := hV 41 (by simp [Op.operands, Call.operands]) (by kernel_rfl)
          have g41 : a.tmps[41]?.getD undef = .int .i64 (b.size : Int) := by rw [← Array.getD_eq_getD_getElem?]; exact e41
          refine op_call (f := 20) (args := #[.int .i64 (b.size : Int)]) (R := fun v y => v = .string tb ∧ Below w3.heap.size w3 y) ?_ ((HBd.out w3 (T1.out.below hC)).mono ?_) ?_
          · (clear hV hI hC; go_simp <;> (first | rfl | simp))
          · rintro e y ⟨rfl, hb⟩; exact ⟨_, rfl, rfl, hb⟩
          · rintro v y ⟨rfl, hb⟩; exact ⟨btE hC hb, hb, by intro d hd; cases hd; rfl⟩
        case o43 =>
          intro Q a w3 hC hV hI
          have e1 : a.eval (.tmp 1) = .pointer (some ⟨w.heap.size, 0, none⟩) := (hI 1 (by simp [Op.operands]) (by kernel_rfl)).trans rfl
          have g1 : a.tmps[1]?.getD undef = .pointer (some ⟨w.heap.size, 0, none⟩) := by rw [← Array.getD_eq_getD_getElem?]; exact e1
          refine op_val (.pointer (some ⟨w.heap.size, 1, none⟩)) ?_ hC (Below.refl _ _) (by intro d hd; cases hd; rfl)
          (clear hV hI hC; go_simp <;> (first | rfl | simp))
        case o44 =>
          intro Q a w3 hC hV hI
          have e43 : a.eval (.tmp 43) = .pointer (some ⟨w.heap.size, 1, none⟩) := hV 43 (by simp [Op.operands]) (by kernel_rfl)
          have g43 : a.tmps[43]?.getD undef = .pointer (some ⟨w.heap.size, 1, none⟩) := by rw [← Array.getD_eq_getD_getElem?]; exact e43
          obtain ⟨d0, d1, d4, d5, d6, d7, d8, d9⟩ := KC.out w3 hC
          refine op_val (.string p) ?_ hC (Below.refl _ _) (by intro d hd; cases hd; rfl)
          (clear hV hI hC; go_simp <;> (first | rfl | simp))
        case o45 =>
          intro Q a w3 hC hV hI
          have e20 : a.eval (.tmp 20) = .string kc := hV 20 (by simp [Op.operands]) (by kernel_rfl)
          have g20 : a.tmps[20]?.getD undef = .string kc := by rw [← Array.getD_eq_getD_getElem?]; exact e20
          have e21 : a.eval (.tmp 21) = .string tm := hV 21 (by simp [Op.operands]) (by kernel_rfl)
          have g21 : a.tmps[21]?.getD undef = .string tm := by rw [← Array.getD_eq_getD_getElem?]; exact e21
          have e24 : a.eval (.tmp 24) = .string tu := hV 24 (by simp [Op.operands]) (by kernel_rfl)
          have g24 : a.tmps[24]?.getD undef = .string tu := by rw [← Array.getD_eq_getD_getElem?]; exact e24
          have e27 : a.eval (.tmp 27) = .string tg := hV 27 (by simp [Op.operands]) (by kernel_rfl)
          have g27 : a.tmps[27]?.getD undef = .string tg := by rw [← Array.getD_eq_getD_getElem?]; exact e27
          have e30 : a.eval (.tmp 30) = .string tt := hV 30 (by simp [Op.operands]) (by kernel_rfl)
          have g30 : a.tmps[30]?.getD undef = .string tt := by rw [← Array.getD_eq_getD_getElem?]; exact e30
          have e34 : a.eval (.tmp 34) = .string tus := hV 34 (by simp [Op.operands]) (by kernel_rfl)
          have g34 : a.tmps[34]?.getD undef = .string tus := by rw [← Array.getD_eq_getD_getElem?]; exact e34
          have e38 : a.eval (.tmp 38) = .string tgr := hV 38 (by simp [Op.operands]) (by kernel_rfl)
          have g38 : a.tmps[38]?.getD undef = .string tgr := by rw [← Array.getD_eq_getD_getElem?]; exact e38
          have e42 : a.eval (.tmp 42) = .string tb := hV 42 (by simp [Op.operands]) (by kernel_rfl)
          have g42 : a.tmps[42]?.getD undef = .string tb := by rw [← Array.getD_eq_getD_getElem?]; exact e42
          have e44 : a.eval (.tmp 44) = .string p := hV 44 (by simp [Op.operands]) (by kernel_rfl)
          have g44 : a.tmps[44]?.getD undef = .string p := by rw [← Array.getD_eq_getD_getElem?]; exact e44
          refine op_val (.slice (some ⟨w3.heap.size, 0, none⟩) 9 9) (w' := w3.alloc (.cells #[.string kc, .string tm, .string tu, .string tg, .string tt, .string tus, .string tgr, .string tb, .string p] 9)) ?_ (hC.alloc hC.size _) ((Below.refl _ _).alloc (Nat.le_refl _) _) ?_
          · (clear hV hI hC; go_simp <;> (first | rfl | simp))
          · intro d hd; cases hd; exact ⟨World.ownsRow_lit w3 _ 9 hC.size (by simp only [maxLen]; omega) rfl, _, _, rfl⟩
        case o5 =>
          intro Q a w3 hC hV hI
          have e45 : OwnL w3 w2.heap.size (a.eval (.tmp 45)) [kc, tm, tu, tg, tt, tus, tgr, tb, p] := hV 45 (by simp [Op.operands]) (by kernel_rfl)
          obtain ⟨v45, q45⟩ : ∃ v, a.eval (.tmp 45) = v := ⟨_, rfl⟩
          rw [q45] at e45
          have g45 : a.tmps[45]?.getD undef = v45 := by rw [← Array.getD_eq_getD_getElem?]; exact q45
          refine op_val v45 ?_ hC (Below.refl _ _) (by intro d hd; cases hd; exact e45)
          (clear hV hI hC e45; go_simp <;> (first | rfl | simp))
      case hend =>
        intro f w3 hC hall
        replace E1 := Lib.hid (E1.out.below hC zb)
        have B2 := Lib.hid (btE B1.out hC)
        have zz := Nat.le_trans B1.out.size hC.size
        have zz2 := hC.size
        clear hC KC B1 T1
        simp only [List.forall_mem_cons] at hall
        obtain ⟨h15, h16, h17, h18, h19, h20, h21, h22, h23, h24, h25, h26, h27, h28, h29, h30, h31, h32, h33, h34, h35, h36, h37, h38, h39, h40, h41, h42, h43, h44, h45, h5, _⟩ := hall
        replace h15 : f 15 = .pointer (some ⟨w.heap.size, 0, none⟩) := h15 15 rfl
        replace h16 : f 16 = .int .i64 2 := h16 16 rfl
        replace h17 : f 17 = .pointer (some ⟨w.heap.size, 0, none⟩) := h17 17 rfl
        replace h18 : f 18 = .int .i64 2 := h18 18 rfl
        replace h19 : f 19 = .int .i64 3 := h19 19 rfl
        replace h20 : f 20 = .string kc := h20 20 rfl
        replace h21 : f 21 = .string tm := h21 21 rfl
        replace h22 : f 22 = .pointer (some ⟨w.heap.size, 4, none⟩) := h22 22 rfl
        replace h23 : f 23 = .int .i64 u := h23 23 rfl
        replace h24 : f 24 = .string tu := h24 24 rfl
        replace h25 : f 25 = .pointer (some ⟨w.heap.size, 5, none⟩) := h25 25 rfl
        replace h26 : f 26 = .int .i64 g := h26 26 rfl
        replace h27 : f 27 = .string tg := h27 27 rfl
        replace h28 : f 28 = .pointer (some ⟨w.heap.size, 6, none⟩) := h28 28 rfl
        replace h29 : f 29 = .int .i64 t := h29 29 rfl
        replace h30 : f 30 = .string tt := h30 30 rfl
        replace h31 : f 31 = .pointer (some ⟨w.heap.size, 7, none⟩) := h31 31 rfl
        replace h32 : f 32 = .string us := h32 32 rfl
        clear h33
        replace h34 : f 34 = .string tus := h34 34 rfl
        replace h35 : f 35 = .pointer (some ⟨w.heap.size, 8, none⟩) := h35 35 rfl
        replace h36 : f 36 = .string gr := h36 36 rfl
        clear h37
        replace h38 : f 38 = .string tgr := h38 38 rfl
        replace h39 : f 39 = .pointer (some ⟨w.heap.size, 9, none⟩) := h39 39 rfl
        replace h40 : f 40 = .string b := h40 40 rfl
        replace h41 : f 41 = .int .i64 (b.size : Int) := h41 41 rfl
        replace h42 : f 42 = .string tb := h42 42 rfl
        replace h43 : f 43 = .pointer (some ⟨w.heap.size, 1, none⟩) := h43 43 rfl
        replace h44 : f 44 = .string p := h44 44 rfl
        clear h45
        replace h5 : OwnL w3 w2.heap.size (f 5) [kc, tm, tu, tg, tt, tus, tgr, tb, p] := h5 5 rfl
        simp only [putAll, Act.put, List.setIfInBounds_toArray, List.set_cons_succ, List.set_cons_zero, h15, h16, h17, h18, h19, h20, h21, h22, h23, h24, h25, h26, h27, h28, h29, h30, h31, h32, h34, h35, h36, h38, h39, h40, h41, h42, h43, h44]
        generalize f 33 = v33
        generalize f 37 = v37
        generalize f 45 = v45
        generalize f 5 = v5 at h5 ⊢
        have ho := h5.1
        have hq : ∃ gw cw, v5 = .slice (some ⟨gw, 0, none⟩) 9 cw := h5.2
        obtain ⟨gw, cw, rfl⟩ := hq
        clear h5
        have O : Hid (w3.ownsRow w2.heap.size 9 1 (.slice (some ⟨gw, 0, none⟩) 9 cw) 9 (strVals [kc, tm, tu, tg, tt, tus, tgr, tb, p])) := Lib.hid ho
        clear ho
        clear h15 h16 h17 h18 h19 h20 h21 h22 h23 h24 h25 h26 h27 h28 h29 h30 h31 h32 h34 h35 h36 h38 h39 h40 h41 h42 h43 h44
        obtain ⟨c0, c1, c2, c3, c4, c5, c6, c7, c8, c9⟩ := E1.out.zero
        clear c0 c1 c3 c4 c5 c6 c7 c8 c9
        by_cases hl0 : l.size = 0
        · have q := empty_t hl0
          have HF := Lib.hid (HZ.out hl0)
          have HJ : Hid (Calls Tryd.prog 22 #[.slice (some ⟨gw, 0, none⟩) 9 cw, .string ⟨#[32]⟩] w3 fun e w' => e = .returned (.string (joinB [kc, tm, tu, tg, tt, tus, tgr, tb, p])) ∧ Below w3.heap.size w3 w') := Lib.hid (joinS [kc, tm, tu, tg, tt, tus, tgr, tb, p] gw cw w2.heap.size w3 HS1.out (by simp) O.out)
          skip
          clear hl0 HZ HL
          go_wp2_with fail
          refine HJ.out.mono ?_
          rintro e w4 ⟨rfl, hb⟩
          go_wp2_with fail
          go_ret
          exact ⟨ret_str HF.out.symm, btE B2.out hb⟩
        · have q := empty_f hl0
          have HF := Lib.hid (HL.out hl0)
          have HJ := Lib.hid (fun gw cw w h => joinS ([kc, tm, tu, tg, tt, tus, tgr, tb, p] ++ [⟨#[45, 62]⟩, l]) gw cw w2.heap.size w HS2.out (by simp) h)
          clear hl0 HZ HL
          go_wp2_with (at_builtin; refine wpList_append_own _ rfl _ _ 39 rfl w2.heap.size 9 i0 (.string ⟨#[]⟩) 1 16 Tryd.underlying39 hi0 hz0 hz1 hz2 rfl (by decide) _ 9 (strVals [kc, tm, tu, tg, tt, tus, tgr, tb, p]) rfl (World.ownsRow.alloc O.out _) ⟨w3.heap.size, 0, none⟩ 2 2 [.string ⟨#[45, 62]⟩, .string l] rfl rfl ?c1k2 ?c2k2 ?c3k2 ?c4k2 ?c5k2 ?_)
          case c2k2 => exact ⟨rfl, rfl⟩
          case c3k2 => simp only [maxLen]; decide
          case c5k2 => first | omega | (simp; omega)
          · intro v' w4 hown' hgrow hnil
            have hO : OwnL w4 w2.heap.size v' ([kc, tm, tu, tg, tt, tus, tgr, tb, p] ++ [⟨#[45, 62]⟩, l]) := own_two hown' hnil
            have hB : Below w.heap.size w w4 := (B2.out.alloc zz _).grown hgrow (by simp; omega) (fun b hb => by have := (World.ownsRow.lt O.out b hb).1; have := B2.out.size; simp only [Value.ownBlock, Option.some.injEq] at hb; omega)
            have ho := hO.1
            have hq : ∃ g c, v' = .slice (some ⟨g, 0, none⟩) 11 c := hO.2
            obtain ⟨g2, c2w, rfl⟩ := hq
            have O2 := Lib.hid ho
            clear hO
            have B3 := Lib.hid hB
            clear hown' hgrow hnil ho hB
            have HJ2 : Hid (Calls Tryd.prog 22 #[.slice (some ⟨g2, 0, none⟩) 11 c2w, .string ⟨#[32]⟩] w4 fun e w' => e = .returned (.string (joinB ([kc, tm, tu, tg, tt, tus, tgr, tb, p] ++ [⟨#[45, 62]⟩, l]))) ∧ Below w4.heap.size w4 w') := Lib.hid (HJ.out g2 c2w w4 O2.out)
            clear HJ
            go_wp2_with fail
            refine HJ2.out.mono ?_
            rintro e w5 ⟨rfl, hb⟩
            go_wp2_with fail
            go_ret
            exact ⟨ret_str HF.out.symm, btE B3.out hb⟩
    · obtain ⟨kc, hkc⟩ : ∃ kc : ByteArray, kc = ⟨#[104]⟩ := ⟨_, rfl⟩
      have HK : Hid (kindCh 3 = kc) := Lib.hid (by rw [hkc]; rfl)
      have zk : kc.size ≤ 1 := by rw [hkc]; decide
      rw [HK.out] at HZ HL
      have HS1 : Hid ((joinB [kc, tm, tu, tg, tt, tus, tgr, tb, p]).size ≤ 1000) := Lib.hid (by rw [← nine_join]; have zsp : (⟨#[32]⟩ : ByteArray).size = 1 := rfl; simp only [nineS, ByteArray.size_append]; omega)
      have HS2 : Hid ((joinB ([kc, tm, tu, tg, tt, tus, tgr, tb, p] ++ [⟨#[45, 62]⟩, l])).size ≤ 1000) := Lib.hid (by rw [← link_join]; have zsp : (⟨#[32]⟩ : ByteArray).size = 1 := rfl; have zlk : (⟨#[32, 45, 62, 32]⟩ : ByteArray).size = 4 := rfl; simp only [nineS, ByteArray.size_append]; omega)
      have HCut : Hid ((⟨#[102, 100, 108, 104]⟩ : ByteArray).extract 3 4 = kc) := Lib.hid (by rw [hkc]; rfl)
      have HKC := Lib.hid hkc
      clear hkc
      go_enter Tryd.func8, Tryd.ntmps8
      go_wp2_with fail
      refine (HO.out _).mono ?_
      rintro e w1 ⟨rfl, hb⟩
      obtain ⟨k1, bb, zb⟩ := one_new (e1 := ⟨_, p, l, m, u, g, t, us, gr, b⟩) hb
      have E1 := Lib.hid k1
      have B1 := Lib.hid bb
      have T1 := Lib.hid (HTab.out.below bb)
      clear hb k1 bb HO HTab
      obtain ⟨c0, c1, c2, c3, c4, c5, c6, c7, c8, c9⟩ := E1.out.zero
      go_wp2_with fail
      refine (HM.out _ T1.out).mono ?_
      rintro e w2 ⟨rfl, hb⟩
      replace E1 := Lib.hid (E1.out.below hb zb)
      replace B1 := Lib.hid (btE B1.out hb)
      replace T1 := Lib.hid (T1.out.below hb)
      replace zb := Nat.lt_of_lt_of_le zb hb.size
      clear hb HM c0 c1 c2 c3 c4 c5 c6 c7 c8 c9
      obtain ⟨c0, c1, c2, c3, c4, c5, c6, c7, c8, c9⟩ := E1.out.zero
      go_wp2_with fail
      have KC : Hid (∀ w', Below w2.heap.size w2 w' → w'.cell? ⟨w.heap.size, 0, none⟩ = some (.int .i64 3) ∧ w'.cell? ⟨w.heap.size, 1, none⟩ = some (.string p) ∧ w'.cell? ⟨w.heap.size, 4, none⟩ = some (.int .i64 u) ∧ w'.cell? ⟨w.heap.size, 5, none⟩ = some (.int .i64 g) ∧ w'.cell? ⟨w.heap.size, 6, none⟩ = some (.int .i64 t) ∧ w'.cell? ⟨w.heap.size, 7, none⟩ = some (.string us) ∧ w'.cell? ⟨w.heap.size, 8, none⟩ = some (.string gr) ∧ w'.cell? ⟨w.heap.size, 9, none⟩ = some (.string b)) := Lib.hid (fun w' hb => ⟨(hb.cell (p := ⟨w.heap.size, 0, none⟩) zb).trans c0, (hb.cell (p := ⟨w.heap.size, 1, none⟩) zb).trans c1, (hb.cell (p := ⟨w.heap.size, 4, none⟩) zb).trans c4, (hb.cell (p := ⟨w.heap.size, 5, none⟩) zb).trans c5, (hb.cell (p := ⟨w.heap.size, 6, none⟩) zb).trans c6, (hb.cell (p := ⟨w.heap.size, 7, none⟩) zb).trans c7, (hb.cell (p := ⟨w.heap.size, 8, none⟩) zb).trans c8, (hb.cell (p := ⟨w.heap.size, 9, none⟩) zb).trans c9⟩)
      clear c0 c1 c2 c3 c4 c5 c6 c7 c8 c9
      refine wp_region_inv (by kernel_rfl) (fun w' => Below w2.heap.size w2 w') (fun x y => Below x.heap.size x y) (wordV w.heap.size 3 4 kc p tm u g t us gr b tu tg tt tus tgr tb w2.heap.size) (by kernel_rfl) (kd0 w2) (wordV_keep _ _ _ _ _ _ _ _ _ _ _ _ _ _ _ _ _ _ _) ?hops ?hend
      case hops =>
        simp only [List.forall_mem_cons]
        refine ⟨?o15, ?o16, ?o17, ?o18, ?o19, ?o20, ?o21, ?o22, ?o23, ?o24, ?o25, ?o26, ?o27, ?o28, ?o29, ?o30, ?o31, ?o32, ?o33, ?o34, ?o35, ?o36, ?o37, ?o38, ?o39, ?o40, ?o41, ?o42, ?o43, ?o44, ?o45, ?o5, fun _ h => by cases h⟩
        case o15 =>
          intro Q a w3 hC hV hI
          have e1 : a.eval (.tmp 1) = .pointer (some ⟨w.heap.size, 0, none⟩) := (hI 1 (by simp [Op.operands]) (by kernel_rfl)).trans rfl
          have g1 : a.tmps[1]?.getD undef = .pointer (some ⟨w.heap.size, 0, none⟩) := by rw [← Array.getD_eq_getD_getElem?]; exact e1
          refine op_val (.pointer (some ⟨w.heap.size, 0, none⟩)) ?_ hC (Below.refl _ _) (by intro d hd; cases hd; rfl)
          (clear hV hI hC; go_simp <;> (first | rfl | simp))
        case o16 =>
          intro Q a w3 hC hV hI
          have e15 : a.eval (.tmp 15) = .pointer (some ⟨w.heap.size, 0, none⟩) := hV 15 (by simp [Op.operands]) (by kernel_rfl)
          have g15 : a.tmps[15]?.getD undef = .pointer (some ⟨w.heap.size, 0, none⟩) := by rw [← Array.getD_eq_getD_getElem?]; exact e15
          obtain ⟨d0, d1, d4, d5, d6, d7, d8, d9⟩ := KC.out w3 hC
          refine op_val (.int .i64 3) ?_ hC (Below.refl _ _) (by intro d hd; cases hd; rfl)
          (clear hV hI hC; go_simp <;> (first | rfl | simp))
        case o17 =>
          intro Q a w3 hC hV hI
          have e1 : a.eval (.tmp 1) = .pointer (some ⟨w.heap.size, 0, none⟩) := (hI 1 (by simp [Op.operands]) (by kernel_rfl)).trans rfl
          have g1 : a.tmps[1]?.getD undef = .pointer (some ⟨w.heap.size, 0, none⟩) := by rw [← Array.getD_eq_getD_getElem?]; exact e1
          refine op_val (.pointer (some ⟨w.heap.size, 0, none⟩)) ?_ hC (Below.refl _ _) (by intro d hd; cases hd; rfl)
          (clear hV hI hC; go_simp <;> (first | rfl | simp))
        case o18 =>
          intro Q a w3 hC hV hI
          have e17 : a.eval (.tmp 17) = .pointer (some ⟨w.heap.size, 0, none⟩) := hV 17 (by simp [Op.operands]) (by kernel_rfl)
          have g17 : a.tmps[17]?.getD undef = .pointer (some ⟨w.heap.size, 0, none⟩) := by rw [← Array.getD_eq_getD_getElem?]; exact e17
          obtain ⟨d0, d1, d4, d5, d6, d7, d8, d9⟩ := KC.out w3 hC
          refine op_val (.int .i64 3) ?_ hC (Below.refl _ _) (by intro d hd; cases hd; rfl)
          (clear hV hI hC; go_simp <;> (first | rfl | simp))
        case o19 =>
          intro Q a w3 hC hV hI
          have e18 : a.eval (.tmp 18) = .int .i64 3 := hV 18 (by simp [Op.operands]) (by kernel_rfl)
          have g18 : a.tmps[18]?.getD undef = .int .i64 3 := by rw [← Array.getD_eq_getD_getElem?]; exact e18
          refine op_val (.int .i64 4) ?_ hC (Below.refl _ _) (by intro d hd; cases hd; rfl)
          (clear hV hI hC; go_simp <;> (first | rfl | simp))
        case o20 =>
          intro Q a w3 hC hV hI
          have e16 : a.eval (.tmp 16) = .int .i64 3 := hV 16 (by simp [Op.operands]) (by kernel_rfl)
          have g16 : a.tmps[16]?.getD undef = .int .i64 3 := by rw [← Array.getD_eq_getD_getElem?]; exact e16
          have e19 : a.eval (.tmp 19) = .int .i64 4 := hV 19 (by simp [Op.operands]) (by kernel_rfl)
          have g19 : a.tmps[19]?.getD undef = .int .i64 4 := by rw [← Array.getD_eq_getD_getElem?]; exact e19
          have q := HCut.out
          refine op_val (.string kc) ?_ hC (Below.refl _ _) (by intro d hd; cases hd; rfl)
          (clear hV hI hC; go_simp <;> (first | rfl | simp))
        case o21 =>
          intro Q a w3 hC hV hI
          have e3 : a.eval (.tmp 3) = .string tm := (hI 3 (by simp [Op.operands]) (by kernel_rfl)).trans rfl
          have g3 : a.tmps[3]?.getD undef = .string tm := by rw [← Array.getD_eq_getD_getElem?]; exact e3
          refine op_val (.string tm) ?_ hC (Below.refl _ _) (by intro d hd; cases hd; rfl)
          (clear hV hI hC; go_simp <;> (first | rfl | simp))
        case o22 =>
          intro Q a w3 hC hV hI
          have e1 : a.eval (.tmp 1) = .pointer (some ⟨w.heap.size, 0, none⟩) := (hI 1 (by simp [Op.operands]) (by kernel_rfl)).trans rfl
          have g1 : a.tmps[1]?.getD undef = .pointer (some ⟨w.heap.size, 0, none⟩) := by rw [← Array.getD_eq_getD_getElem?]; exact e1
          refine op_val (.pointer (some ⟨w.heap.size, 4, none⟩)) ?_ hC (Below.refl _ _) (by intro d hd; cases hd; rfl)
          (clear hV hI hC; go_simp <;> (first | rfl | simp))
        case o23 =>
          intro Q a w3 hC hV hI
          have e22 : a.eval (.tmp 22) = .pointer (some ⟨w.heap.size, 4, none⟩) := hV 22 (by simp [Op.operands]) (by kernel_rfl)
          have g22 : a.tmps[22]?.getD undef = .pointer (some ⟨w.heap.size, 4, none⟩) := by rw [← Array.getD_eq_getD_getElem?]; exact e22
          obtain ⟨d0, d1, d4, d5, d6, d7, d8, d9⟩ := KC.out w3 hC
          refine op_val (.int .i64 u) ?_ hC (Below.refl _ _) (by intro d hd; cases hd; rfl)
          (clear hV hI hC; go_simp <;> (first | rfl | simp))
        case o24 =>
          intro Q a w3 hC hV hI
          have e23 : a.eval (.tmp 23) = .int .i64 u := hV 23 (by simp [Op.operands, Call.operands]) (by kernel_rfl)
          have g23 : a.tmps[23]?.getD undef = .int .i64 u := by rw [← Array.getD_eq_getD_getElem?]; exact e23
          refine op_call (f := 20) (args := #[.int .i64 u]) (R := fun v y => v = .string tu ∧ Below w3.heap.size w3 y) ?_ ((HU.out w3 (T1.out.below hC)).mono ?_) ?_
          · (clear hV hI hC; go_simp <;> (first | rfl | simp))
          · rintro e y ⟨rfl, hb⟩; exact ⟨_, rfl, rfl, hb⟩
          · rintro v y ⟨rfl, hb⟩; exact ⟨btE hC hb, hb, by intro d hd; cases hd; rfl⟩
        case o25 =>
          intro Q a w3 hC hV hI
          have e1 : a.eval (.tmp 1) = .pointer (some ⟨w.heap.size, 0, none⟩) := (hI 1 (by simp [Op.operands]) (by kernel_rfl)).trans rfl
          have g1 : a.tmps[1]?.getD undef = .pointer (some ⟨w.heap.size, 0, none⟩) := by rw [← Array.getD_eq_getD_getElem?]; exact e1
          refine op_val (.pointer (some ⟨w.heap.size, 5, none⟩)) ?_ hC (Below.refl _ _) (by intro d hd; cases hd; rfl)
          (clear hV hI hC; go_simp <;> (first | rfl | simp))
        case o26 =>
          intro Q a w3 hC hV hI
          have e25 : a.eval (.tmp 25) = .pointer (some ⟨w.heap.size, 5, none⟩) := hV 25 (by simp [Op.operands]) (by kernel_rfl)
          have g25 : a.tmps[25]?.getD undef = .pointer (some ⟨w.heap.size, 5, none⟩) := by rw [← Array.getD_eq_getD_getElem?]; exact e25
          obtain ⟨d0, d1, d4, d5, d6, d7, d8, d9⟩ := KC.out w3 hC
          refine op_val (.int .i64 g) ?_ hC (Below.refl _ _) (by intro d hd; cases hd; rfl)
          (clear hV hI hC; go_simp <;> (first | rfl | simp))
        case o27 =>
          intro Q a w3 hC hV hI
          have e26 : a.eval (.tmp 26) = .int .i64 g := hV 26 (by simp [Op.operands, Call.operands]) (by kernel_rfl)
          have g26 : a.tmps[26]?.getD undef = .int .i64 g := by rw [← Array.getD_eq_getD_getElem?]; exact e26
          refine op_call (f := 20) (args := #[.int .i64 g]) (R := fun v y => v = .string tg ∧ Below w3.heap.size w3 y) ?_ ((HGd.out w3 (T1.out.below hC)).mono ?_) ?_
          · (clear hV hI hC; go_simp <;> (first | rfl | simp))
          · rintro e y ⟨rfl, hb⟩; exact ⟨_, rfl, rfl, hb⟩
          · rintro v y ⟨rfl, hb⟩; exact ⟨btE hC hb, hb, by intro d hd; cases hd; rfl⟩
        case o28 =>
          intro Q a w3 hC hV hI
          have e1 : a.eval (.tmp 1) = .pointer (some ⟨w.heap.size, 0, none⟩) := (hI 1 (by simp [Op.operands]) (by kernel_rfl)).trans rfl
          have g1 : a.tmps[1]?.getD undef = .pointer (some ⟨w.heap.size, 0, none⟩) := by rw [← Array.getD_eq_getD_getElem?]; exact e1
          refine op_val (.pointer (some ⟨w.heap.size, 6, none⟩)) ?_ hC (Below.refl _ _) (by intro d hd; cases hd; rfl)
          (clear hV hI hC; go_simp <;> (first | rfl | simp))
        case o29 =>
          intro Q a w3 hC hV hI
          have e28 : a.eval (.tmp 28) = .pointer (some ⟨w.heap.size, 6, none⟩) := hV 28 (by simp [Op.operands]) (by kernel_rfl)
          have g28 : a.tmps[28]?.getD undef = .pointer (some ⟨w.heap.size, 6, none⟩) := by rw [← Array.getD_eq_getD_getElem?]; exact e28
          obtain ⟨d0, d1, d4, d5, d6, d7, d8, d9⟩ := KC.out w3 hC
          refine op_val (.int .i64 t) ?_ hC (Below.refl _ _) (by intro d hd; cases hd; rfl)
          (clear hV hI hC; go_simp <;> (first | rfl | simp))
        case o30 =>
          intro Q a w3 hC hV hI
          have e29 : a.eval (.tmp 29) = .int .i64 t := hV 29 (by simp [Op.operands, Call.operands]) (by kernel_rfl)
          have g29 : a.tmps[29]?.getD undef = .int .i64 t := by rw [← Array.getD_eq_getD_getElem?]; exact e29
          refine op_call (f := 20) (args := #[.int .i64 t]) (R := fun v y => v = .string tt ∧ Below w3.heap.size w3 y) ?_ ((HT.out w3 (T1.out.below hC)).mono ?_) ?_
          · (clear hV hI hC; go_simp <;> (first | rfl | simp))
          · rintro e y ⟨rfl, hb⟩; exact ⟨_, rfl, rfl, hb⟩
          · rintro v y ⟨rfl, hb⟩; exact ⟨btE hC hb, hb, by intro d hd; cases hd; rfl⟩
        case o31 =>
          intro Q a w3 hC hV hI
          have e1 : a.eval (.tmp 1) = .pointer (some ⟨w.heap.size, 0, none⟩) := (hI 1 (by simp [Op.operands]) (by kernel_rfl)).trans rfl
          have g1 : a.tmps[1]?.getD undef = .pointer (some ⟨w.heap.size, 0, none⟩) := by rw [← Array.getD_eq_getD_getElem?]; exact e1
          refine op_val (.pointer (some ⟨w.heap.size, 7, none⟩)) ?_ hC (Below.refl _ _) (by intro d hd; cases hd; rfl)
          (clear hV hI hC; go_simp <;> (first | rfl | simp))
        case o32 =>
          intro Q a w3 hC hV hI
          have e31 : a.eval (.tmp 31) = .pointer (some ⟨w.heap.size, 7, none⟩) := hV 31 (by simp [Op.operands]) (by kernel_rfl)
          have g31 : a.tmps[31]?.getD undef = .pointer (some ⟨w.heap.size, 7, none⟩) := by rw [← Array.getD_eq_getD_getElem?]; exact e31
          obtain ⟨d0, d1, d4, d5, d6, d7, d8, d9⟩ := KC.out w3 hC
          refine op_val (.string us) ?_ hC (Below.refl _ _) (by intro d hd; cases hd; rfl)
          (clear hV hI hC; go_simp <;> (first | rfl | simp))
        case o33 =>
          intro Q a w3 hC hV hI
          have e32 : a.eval (.tmp 32) = .string us := hV 32 (by simp [Op.operands]) (by kernel_rfl)
          have g32 : a.tmps[32]?.getD undef = .string us := by rw [← Array.getD_eq_getD_getElem?]; exact e32
          refine op_val (.slice (some ⟨w3.heap.size, 0, none⟩) 2 2) (w' := w3.alloc (.cells #[.string us, .string ⟨#[45]⟩] 9)) ?_ (hC.alloc hC.size _) ((Below.refl _ _).alloc (Nat.le_refl _) _) ?_
          · (clear hV hI hC; go_simp <;> (first | rfl | simp))
          · intro d hd; cases hd; exact ⟨w3.heap.size, rfl, by simp, by simp⟩
        case o34 =>
          intro Q a w3 hC hV hI
          obtain ⟨G, e33, q0, q1⟩ : ∃ G, a.eval (.tmp 33) = .slice (some ⟨G, 0, none⟩) 2 2 ∧ w3.cell? ⟨G, 0, none⟩ = some (.string us) ∧ w3.cell? ⟨G, 1, none⟩ = some (.string ⟨#[45]⟩) := hV 33 (by simp [Op.operands, Call.operands]) (by kernel_rfl)
          have g33 : a.tmps[33]?.getD undef = .slice (some ⟨G, 0, none⟩) 2 2 := by rw [← Array.getD_eq_getD_getElem?]; exact e33
          refine op_call (f := 21) (args := #[.slice (some ⟨G, 0, none⟩) 2 2]) (R := fun v y => v = .string tus ∧ w3 = y) ?_ ((HUs.out G w3 q0 q1).mono ?_) ?_
          · (clear q0 q1); (clear hV hI hC; go_simp <;> (first | rfl | simp))
          · rintro e y ⟨rfl, rfl⟩; exact ⟨_, rfl, rfl, rfl⟩
          · rintro v y ⟨rfl, rfl⟩; exact ⟨hC, Below.refl _ _, by intro d hd; cases hd; rfl⟩
        case o35 =>
          intro Q a w3 hC hV hI
          have e1 : a.eval (.tmp 1) = .pointer (some ⟨w.heap.size, 0, none⟩) := (hI 1 (by simp [Op.operands]) (by kernel_rfl)).trans rfl
          have g1 : a.tmps[1]?.getD undef = .pointer (some ⟨w.heap.size, 0, none⟩) := by rw [← Array.getD_eq_getD_getElem?]; exact e1
          refine op_val (.pointer (some ⟨w.heap.size, 8, none⟩)) ?_ hC (Below.refl _ _) (by intro d hd; cases hd; rfl)
          (clear hV hI hC; go_simp <;> (first | rfl | simp))
        case o36 =>
          intro Q a w3 hC hV hI
          have e35 : a.eval (.tmp 35) = .pointer (some ⟨w.heap.size, 8, none⟩) := hV 35 (by simp [Op.operands]) (by kernel_rfl)
          have g35 : a.tmps[35]?.getD undef = .pointer (some ⟨w.heap.size, 8, none⟩) := by rw [← Array.getD_eq_getD_getElem?]; exact e35
          obtain ⟨d0, d1, d4, d5, d6, d7, d8, d9⟩ := KC.out w3 hC
          refine op_val (.string gr) ?_ hC (Below.refl _ _) (by intro d hd; cases hd; rfl)
          (clear hV hI hC; go_simp <;> (first | rfl | simp))
        case o37 =>
          intro Q a w3 hC hV hI
          have e36 : a.eval (.tmp 36) = .string gr := hV 36 (by simp [Op.operands]) (by kernel_rfl)
          have g36 : a.tmps[36]?.getD undef = .string gr := by rw [← Array.getD_eq_getD_getElem?]; exact e36
          refine op_val (.slice (some ⟨w3.heap.size, 0, none⟩) 2 2) (w' := w3.alloc (.cells #[.string gr, .string ⟨#[45]⟩] 9)) ?_ (hC.alloc hC.size _) ((Below.refl _ _).alloc (Nat.le_refl _) _) ?_
          · (clear hV hI hC; go_simp <;> (first | rfl | simp))
          · intro d hd; cases hd; exact ⟨w3.heap.size, rfl, by simp, by simp⟩
        case o38 =>
          intro Q a w3 hC hV hI
          obtain ⟨G, e37, q0, q1⟩ : ∃ G, a.eval (.tmp 37) = .slice (some ⟨G, 0, none⟩) 2 2 ∧ w3.cell? ⟨G, 0, none⟩ = some (.string gr) ∧ w3.cell? ⟨G, 1, none⟩ = some (.string ⟨#[45]⟩) := hV 37 (by simp [Op.operands, Call.operands]) (by kernel_rfl)
          have g37 : a.tmps[37]?.getD undef = .slice (some ⟨G, 0, none⟩) 2 2 := by rw [← Array.getD_eq_getD_getElem?]; exact e37
          refine op_call (f := 21) (args := #[.slice (some ⟨G, 0, none⟩) 2 2]) (R := fun v y => v = .string tgr ∧ w3 = y) ?_ ((HGr.out G w3 q0 q1).mono ?_) ?_
          · (clear q0 q1); (clear hV hI hC; go_simp <;> (first | rfl | simp))
          · rintro e y ⟨rfl, rfl⟩; exact ⟨_, rfl, rfl, rfl⟩
          · rintro v y ⟨rfl, rfl⟩; exact ⟨hC, Below.refl _ _, by intro d hd; cases hd; rfl⟩
        case o39 =>
          intro Q a w3 hC hV hI
          have e1 : a.eval (.tmp 1) = .pointer (some ⟨w.heap.size, 0, none⟩) := (hI 1 (by simp [Op.operands]) (by kernel_rfl)).trans rfl
          have g1 : a.tmps[1]?.getD undef = .pointer (some ⟨w.heap.size, 0, none⟩) := by rw [← Array.getD_eq_getD_getElem?]; exact e1
          refine op_val (.pointer (some ⟨w.heap.size, 9, none⟩)) ?_ hC (Below.refl _ _) (by intro d hd; cases hd; rfl)
          (clear hV hI hC; go_simp <;> (first | rfl | simp))
        case o40 =>
          intro Q a w3 hC hV hI
          have e39 : a.eval (.tmp 39) = .pointer (some ⟨w.heap.size, 9, none⟩) := hV 39 (by simp [Op.operands]) (by kernel_rfl)
          have g39 : a.tmps[39]?.getD undef = .pointer (some ⟨w.heap.size, 9, none⟩) := by rw [← Array.getD_eq_getD_getElem?]; exact e39
          obtain ⟨d0, d1, d4, d5, d6, d7, d8, d9⟩ := KC.out w3 hC
          refine op_val (.string b) ?_ hC (Below.refl _ _) (by intro d hd; cases hd; rfl)
          (clear hV hI hC; go_simp <;> (first | rfl | simp))
        case o41 =>
          intro Q a w3 hC hV hI
          have e40 : a.eval (.tmp 40) = .string b := hV 40 (by simp [Op.operands, Call.operands]) (by kernel_rfl)
          have g40 : a.tmps[40]?.getD undef = .string b := by rw [← Array.getD_eq_getD_getElem?]; exact e40
          refine op_val (.int .i64 (b.size : Int)) ?_ hC (Below.refl _ _) (by intro d hd; cases hd; rfl)
          (clear hV hI hC; go_simp <;> (first | rfl | simp))
        case o42 =>
          intro Q a w3 hC hV hI
          have e41 : a.eval (.tmp 41) = .int .i64 (b.size : Int) := hV 41 (by simp [Op.operands, Call.operands]) (by kernel_rfl)
          have g41 : a.tmps[41]?.getD undef = .int .i64 (b.size : Int) := by rw [← Array.getD_eq_getD_getElem?]; exact e41
          refine op_call (f := 20) (args := #[.int .i64 (b.size : Int)]) (R := fun v y => v = .string tb ∧ Below w3.heap.size w3 y) ?_ ((HBd.out w3 (T1.out.below hC)).mono ?_) ?_
          · (clear hV hI hC; go_simp <;> (first | rfl | simp))
          · rintro e y ⟨rfl, hb⟩; exact ⟨_, rfl, rfl, hb⟩
          · rintro v y ⟨rfl, hb⟩; exact ⟨btE hC hb, hb, by intro d hd; cases hd; rfl⟩
        case o43 =>
          intro Q a w3 hC hV hI
          have e1 : a.eval (.tmp 1) = .pointer (some ⟨w.heap.size, 0, none⟩) := (hI 1 (by simp [Op.operands]) (by kernel_rfl)).trans rfl
          have g1 : a.tmps[1]?.getD undef = .pointer (some ⟨w.heap.size, 0, none⟩) := by rw [← Array.getD_eq_getD_getElem?]; exact e1
          refine op_val (.pointer (some ⟨w.heap.size, 1, none⟩)) ?_ hC (Below.refl _ _) (by intro d hd; cases hd; rfl)
          (clear hV hI hC; go_simp <;> (first | rfl | simp))
        case o44 =>
          intro Q a w3 hC hV hI
          have e43 : a.eval (.tmp 43) = .pointer (some ⟨w.heap.size, 1, none⟩) := hV 43 (by simp [Op.operands]) (by kernel_rfl)
          have g43 : a.tmps[43]?.getD undef = .pointer (some ⟨w.heap.size, 1, none⟩) := by rw [← Array.getD_eq_getD_getElem?]; exact e43
          obtain ⟨d0, d1, d4, d5, d6, d7, d8, d9⟩ := KC.out w3 hC
          refine op_val (.string p) ?_ hC (Below.refl _ _) (by intro d hd; cases hd; rfl)
          (clear hV hI hC; go_simp <;> (first | rfl | simp))
        case o45 =>
          intro Q a w3 hC hV hI
          have e20 : a.eval (.tmp 20) = .string kc := hV 20 (by simp [Op.operands]) (by kernel_rfl)
          have g20 : a.tmps[20]?.getD undef = .string kc := by rw [← Array.getD_eq_getD_getElem?]; exact e20
          have e21 : a.eval (.tmp 21) = .string tm := hV 21 (by simp [Op.operands]) (by kernel_rfl)
          have g21 : a.tmps[21]?.getD undef = .string tm := by rw [← Array.getD_eq_getD_getElem?]; exact e21
          have e24 : a.eval (.tmp 24) = .string tu := hV 24 (by simp [Op.operands]) (by kernel_rfl)
          have g24 : a.tmps[24]?.getD undef = .string tu := by rw [← Array.getD_eq_getD_getElem?]; exact e24
          have e27 : a.eval (.tmp 27) = .string tg := hV 27 (by simp [Op.operands]) (by kernel_rfl)
          have g27 : a.tmps[27]?.getD undef = .string tg := by rw [← Array.getD_eq_getD_getElem?]; exact e27
          have e30 : a.eval (.tmp 30) = .string tt := hV 30 (by simp [Op.operands]) (by kernel_rfl)
          have g30 : a.tmps[30]?.getD undef = .string tt := by rw [← Array.getD_eq_getD_getElem?]; exact e30
          have e34 : a.eval (.tmp 34) = .string tus := hV 34 (by simp [Op.operands]) (by kernel_rfl)
          have g34 : a.tmps[34]?.getD undef = .string tus := by rw [← Array.getD_eq_getD_getElem?]; exact e34
          have e38 : a.eval (.tmp 38) = .string tgr := hV 38 (by simp [Op.operands]) (by kernel_rfl)
          have g38 : a.tmps[38]?.getD undef = .string tgr := by rw [← Array.getD_eq_getD_getElem?]; exact e38
          have e42 : a.eval (.tmp 42) = .string tb := hV 42 (by simp [Op.operands]) (by kernel_rfl)
          have g42 : a.tmps[42]?.getD undef = .string tb := by rw [← Array.getD_eq_getD_getElem?]; exact e42
          have e44 : a.eval (.tmp 44) = .string p := hV 44 (by simp [Op.operands]) (by kernel_rfl)
          have g44 : a.tmps[44]?.getD undef = .string p := by rw [← Array.getD_eq_getD_getElem?]; exact e44
          refine op_val (.slice (some ⟨w3.heap.size, 0, none⟩) 9 9) (w' := w3.alloc (.cells #[.string kc, .string tm, .string tu, .string tg, .string tt, .string tus, .string tgr, .string tb, .string p] 9)) ?_ (hC.alloc hC.size _) ((Below.refl _ _).alloc (Nat.le_refl _) _) ?_
          · (clear hV hI hC; go_simp <;> (first | rfl | simp))
          · intro d hd; cases hd; exact ⟨World.ownsRow_lit w3 _ 9 hC.size (by simp only [maxLen]; omega) rfl, _, _, rfl⟩
        case o5 =>
          intro Q a w3 hC hV hI
          have e45 : OwnL w3 w2.heap.size (a.eval (.tmp 45)) [kc, tm, tu, tg, tt, tus, tgr, tb, p] := hV 45 (by simp [Op.operands]) (by kernel_rfl)
          obtain ⟨v45, q45⟩ : ∃ v, a.eval (.tmp 45) = v := ⟨_, rfl⟩
          rw [q45] at e45
          have g45 : a.tmps[45]?.getD undef = v45 := by rw [← Array.getD_eq_getD_getElem?]; exact q45
          refine op_val v45 ?_ hC (Below.refl _ _) (by intro d hd; cases hd; exact e45)
          (clear hV hI hC e45; go_simp <;> (first | rfl | simp))
      case hend =>
        intro f w3 hC hall
        replace E1 := Lib.hid (E1.out.below hC zb)
        have B2 := Lib.hid (btE B1.out hC)
        have zz := Nat.le_trans B1.out.size hC.size
        have zz2 := hC.size
        clear hC KC B1 T1
        simp only [List.forall_mem_cons] at hall
        obtain ⟨h15, h16, h17, h18, h19, h20, h21, h22, h23, h24, h25, h26, h27, h28, h29, h30, h31, h32, h33, h34, h35, h36, h37, h38, h39, h40, h41, h42, h43, h44, h45, h5, _⟩ := hall
        replace h15 : f 15 = .pointer (some ⟨w.heap.size, 0, none⟩) := h15 15 rfl
        replace h16 : f 16 = .int .i64 3 := h16 16 rfl
        replace h17 : f 17 = .pointer (some ⟨w.heap.size, 0, none⟩) := h17 17 rfl
        replace h18 : f 18 = .int .i64 3 := h18 18 rfl
        replace h19 : f 19 = .int .i64 4 := h19 19 rfl
        replace h20 : f 20 = .string kc := h20 20 rfl
        replace h21 : f 21 = .string tm := h21 21 rfl
        replace h22 : f 22 = .pointer (some ⟨w.heap.size, 4, none⟩) := h22 22 rfl
        replace h23 : f 23 = .int .i64 u := h23 23 rfl
        replace h24 : f 24 = .string tu := h24 24 rfl
        replace h25 : f 25 = .pointer (some ⟨w.heap.size, 5, none⟩) := h25 25 rfl
        replace h26 : f 26 = .int .i64 g := h26 26 rfl
        replace h27 : f 27 = .string tg := h27 27 rfl
        replace h28 : f 28 = .pointer (some ⟨w.heap.size, 6, none⟩) := h28 28 rfl
        replace h29 : f 29 = .int .i64 t := h29 29 rfl
        replace h30 : f 30 = .string tt := h30 30 rfl
        replace h31 : f 31 = .pointer (some ⟨w.heap.size, 7, none⟩) := h31 31 rfl
        replace h32 : f 32 = .string us := h32 32 rfl
        clear h33
        replace h34 : f 34 = .string tus := h34 34 rfl
        replace h35 : f 35 = .pointer (some ⟨w.heap.size, 8, none⟩) := h35 35 rfl
        replace h36 : f 36 = .string gr := h36 36 rfl
        clear h37
        replace h38 : f 38 = .string tgr := h38 38 rfl
        replace h39 : f 39 = .pointer (some ⟨w.heap.size, 9, none⟩) := h39 39 rfl
        replace h40 : f 40 = .string b := h40 40 rfl
        replace h41 : f 41 = .int .i64 (b.size : Int) := h41 41 rfl
        replace h42 : f 42 = .string tb := h42 42 rfl
        replace h43 : f 43 = .pointer (some ⟨w.heap.size, 1, none⟩) := h43 43 rfl
        replace h44 : f 44 = .string p := h44 44 rfl
        clear h45
        replace h5 : OwnL w3 w2.heap.size (f 5) [kc, tm, tu, tg, tt, tus, tgr, tb, p] := h5 5 rfl
        simp only [putAll, Act.put, List.setIfInBounds_toArray, List.set_cons_succ, List.set_cons_zero, h15, h16, h17, h18, h19, h20, h21, h22, h23, h24, h25, h26, h27, h28, h29, h30, h31, h32, h34, h35, h36, h38, h39, h40, h41, h42, h43, h44]
        generalize f 33 = v33
        generalize f 37 = v37
        generalize f 45 = v45
        generalize f 5 = v5 at h5 ⊢
        have ho := h5.1
        have hq : ∃ gw cw, v5 = .slice (some ⟨gw, 0, none⟩) 9 cw := h5.2
        obtain ⟨gw, cw, rfl⟩ := hq
        clear h5
        have O : Hid (w3.ownsRow w2.heap.size 9 1 (.slice (some ⟨gw, 0, none⟩) 9 cw) 9 (strVals [kc, tm, tu, tg, tt, tus, tgr, tb, p])) := Lib.hid ho
        clear ho
        clear h15 h16 h17 h18 h19 h20 h21 h22 h23 h24 h25 h26 h27 h28 h29 h30 h31 h32 h34 h35 h36 h38 h39 h40 h41 h42 h43 h44
        obtain ⟨c0, c1, c2, c3, c4, c5, c6, c7, c8, c9⟩ := E1.out.zero
        clear c0 c1 c3 c4 c5 c6 c7 c8 c9
        by_cases hl0 : l.size = 0
        · have q := empty_t hl0
          have HF := Lib.hid (HZ.out hl0)
          have HJ : Hid (Calls Tryd.prog 22 #[.slice (some ⟨gw, 0, none⟩) 9 cw, .string ⟨#[32]⟩] w3 fun e w' => e = .returned (.string (joinB [kc, tm, tu, tg, tt, tus, tgr, tb, p])) ∧ Below w3.heap.size w3 w') := Lib.hid (joinS [kc, tm, tu, tg, tt, tus, tgr, tb, p] gw cw w2.heap.size w3 HS1.out (by simp) O.out)
          skip
          clear hl0 HZ HL
          go_wp2_with fail
          refine HJ.out.mono ?_
          rintro e w4 ⟨rfl, hb⟩
          go_wp2_with fail
          go_ret
          exact ⟨ret_str HF.out.symm, btE B2.out hb⟩
        · have q := empty_f hl0
          have HF := Lib.hid (HL.out hl0)
          have HJ := Lib.hid (fun gw cw w h => joinS ([kc, tm, tu, tg, tt, tus, tgr, tb, p] ++ [⟨#[45, 62]⟩, l]) gw cw w2.heap.size w HS2.out (by simp) h)
          clear hl0 HZ HL
          go_wp2_with (at_builtin; refine wpList_append_own _ rfl _ _ 39 rfl w2.heap.size 9 i0 (.string ⟨#[]⟩) 1 16 Tryd.underlying39 hi0 hz0 hz1 hz2 rfl (by decide) _ 9 (strVals [kc, tm, tu, tg, tt, tus, tgr, tb, p]) rfl (World.ownsRow.alloc O.out _) ⟨w3.heap.size, 0, none⟩ 2 2 [.string ⟨#[45, 62]⟩, .string l] rfl rfl ?c1k3 ?c2k3 ?c3k3 ?c4k3 ?c5k3 ?_)
          case c2k3 => exact ⟨rfl, rfl⟩
          case c3k3 => simp only [maxLen]; decide
          case c5k3 => first | omega | (simp; omega)
          · intro v' w4 hown' hgrow hnil
            have hO : OwnL w4 w2.heap.size v' ([kc, tm, tu, tg, tt, tus, tgr, tb, p] ++ [⟨#[45, 62]⟩, l]) := own_two hown' hnil
            have hB : Below w.heap.size w w4 := (B2.out.alloc zz _).grown hgrow (by simp; omega) (fun b hb => by have := (World.ownsRow.lt O.out b hb).1; have := B2.out.size; simp only [Value.ownBlock, Option.some.injEq] at hb; omega)
            have ho := hO.1
            have hq : ∃ g c, v' = .slice (some ⟨g, 0, none⟩) 11 c := hO.2
            obtain ⟨g2, c2w, rfl⟩ := hq
            have O2 := Lib.hid ho
            clear hO
            have B3 := Lib.hid hB
            clear hown' hgrow hnil ho hB
            have HJ2 : Hid (Calls Tryd.prog 22 #[.slice (some ⟨g2, 0, none⟩) 11 c2w, .string ⟨#[32]⟩] w4 fun e w' => e = .returned (.string (joinB ([kc, tm, tu, tg, tt, tus, tgr, tb, p] ++ [⟨#[45, 62]⟩, l]))) ∧ Below w4.heap.size w4 w') := Lib.hid (HJ.out g2 c2w w4 O2.out)
            clear HJ
            go_wp2_with fail
            refine HJ2.out.mono ?_
            rintro e w5 ⟨rfl, hb⟩
            go_wp2_with fail
            go_ret
            exact ⟨ret_str HF.out.symm, btE B3.out hb⟩
end Go.Proofs.YtlbkojiengofeabDoor
