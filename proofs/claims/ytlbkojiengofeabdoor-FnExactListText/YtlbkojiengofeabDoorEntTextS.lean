/- Contract of spec.EntryText. -/
import Derived.Test.YtlbkojiengofeabDoorTextMath
import Derived.Test.YtlbkojiengofeabDoorEntAt
import Derived.Test.YtlbkojiengofeabDoorFindE
import Derived.Test.YtlbkojiengofeabDoorRegInv
import Derived.Test.YtlbkojiengofeabDoorEntS
namespace Go.Proofs.YtlbkojiengofeabDoor
open Go.ChangeShapes Go.WideShapes Go.ChangeAt Go.RowKit Go.Deep

theorem or_spec (s : ByteArray) (w : World) : Calls Tryd.prog 17 #[.string s] w fun e w' => e = .returned (.string (orV s)) ∧ w = w' := by
  by_cases h : s.size = 0
  · have q := empty_t h
    have HE : Hid (orV s = ⟨#[45]⟩) := Lib.hid (by rw [orV, if_pos h])
    generalize orV s = r at HE
    clear h
    go_enter Tryd.func17, Tryd.ntmps17
    go_wp2_with fail
    go_ret
    exact ⟨ret_str HE.out.symm, rfl⟩
  · have q := empty_f h
    have HE : Hid (orV s = s) := Lib.hid (by rw [orV, if_neg h])
    generalize orV s = r at HE
    clear h
    go_enter Tryd.func17, Tryd.ntmps17
    go_wp2_with fail
    go_ret
    exact ⟨ret_str HE.out.symm, rfl⟩
theorem kd0 (W : World) : Below W.heap.size W W.drew := (Below.refl _ _).drew
theorem kd1 (W : World) (o : Obj) : Below W.heap.size W (W.drew.alloc o) := (kd0 W).alloc (Nat.le_refl _) o
theorem entText_zero {e : Ent} (h : entOkv e = true) (hl : e.link.size = 0) : entTextv e = nineS (kindCh e.kind) (putOctv e.mode 4).1 (decTextv e.uid) (decTextv e.gid) (decTextv e.time) (orV e.user) (orV e.group) (decTextv e.body.size) e.path := by
  rw [entTextv, if_pos h, nine_join, linkW, if_pos hl]; rfl
theorem entText_link {e : Ent} (h : entOkv e = true) (hl : ¬ e.link.size = 0) : entTextv e = nineS (kindCh e.kind) (putOctv e.mode 4).1 (decTextv e.uid) (decTextv e.gid) (decTextv e.time) (orV e.user) (orV e.group) (decTextv e.body.size) e.path ++ ⟨#[32, 45, 62, 32]⟩ ++ e.link := by
  rw [entTextv, if_pos h, link_join, linkW, if_neg hl]; rfl
/-- What each operation of the long sum leaves in its slot. -/
def textV (E : Nat) (k : Int) (off : Nat) (kc p tm : ByteArray) (u g t : Int) (us gr b tu tg tt tus tgr tb x20 x22 x23 x27 x28 x32 x33 x37 x38 x42 x43 x47 x48 x53 x54 x57 : ByteArray) : Nat → Value → World → Prop
  | 15 => fun v w => ∃ G, v = .slice (some ⟨G, 0, none⟩) 4 4 ∧ w.cell? ⟨G, off, none⟩ = some (.string kc)
  | 16 => fun v _ => v = .pointer (some ⟨E, 0, none⟩)
  | 17 => fun v _ => v = .int .i64 k
  | 18 => fun v w => ∃ A, v = .pointer (some A) ∧ w.cell? A = some (.string kc)
  | 19 => fun v _ => v = .string kc
  | 20 => fun v _ => v = .string x20
  | 21 => fun v _ => v = .string tm
  | 22 => fun v _ => v = .string x22
  | 23 => fun v _ => v = .string x23
  | 24 => fun v _ => v = .pointer (some ⟨E, 4, none⟩)
  | 25 => fun v _ => v = .int .i64 u
  | 26 => fun v _ => v = .string tu
  | 27 => fun v _ => v = .string x27
  | 28 => fun v _ => v = .string x28
  | 29 => fun v _ => v = .pointer (some ⟨E, 5, none⟩)
  | 30 => fun v _ => v = .int .i64 g
  | 31 => fun v _ => v = .string tg
  | 32 => fun v _ => v = .string x32
  | 33 => fun v _ => v = .string x33
  | 34 => fun v _ => v = .pointer (some ⟨E, 6, none⟩)
  | 35 => fun v _ => v = .int .i64 t
  | 36 => fun v _ => v = .string tt
  | 37 => fun v _ => v = .string x37
  | 38 => fun v _ => v = .string x38
  | 39 => fun v _ => v = .pointer (some ⟨E, 7, none⟩)
  | 40 => fun v _ => v = .string us
  | 41 => fun v _ => v = .string tus
  | 42 => fun v _ => v = .string x42
  | 43 => fun v _ => v = .string x43
  | 44 => fun v _ => v = .pointer (some ⟨E, 8, none⟩)
  | 45 => fun v _ => v = .string gr
  | 46 => fun v _ => v = .string tgr
  | 47 => fun v _ => v = .string x47
  | 48 => fun v _ => v = .string x48
  | 49 => fun v _ => v = .pointer (some ⟨E, 9, none⟩)
  | 50 => fun v _ => v = .string b
  | 51 => fun v _ => v = .int .i64 (b.size : Int)
  | 52 => fun v _ => v = .string tb
  | 53 => fun v _ => v = .string x53
  | 54 => fun v _ => v = .string x54
  | 55 => fun v _ => v = .pointer (some ⟨E, 1, none⟩)
  | 56 => fun v _ => v = .string p
  | 57 => fun v _ => v = .string x57
  | 5 => fun v _ => v = .string x57
  | _ => fun _ _ => True
theorem keepC {w w' : World} {a : Addr} {v : Value} (h : w.cell? a = some v) (hb : Below w.heap.size w w') : w'.cell? a = some v := (hb.cell (cell_blk h)).trans h
theorem textV_keep {C : World → Prop} (E : Nat) (k : Int) (off : Nat) (kc p tm : ByteArray) (u g t : Int) (us gr b tu tg tt tus tgr tb x20 x22 x23 x27 x28 x32 x33 x37 x38 x42 x43 x47 x48 x53 x54 x57 : ByteArray) : ∀ d v w w', C w → Below w.heap.size w w' → textV E k off kc p tm u g t us gr b tu tg tt tus tgr tb x20 x22 x23 x27 x28 x32 x33 x37 x38 x42 x43 x47 x48 x53 x54 x57 d v w → textV E k off kc p tm u g t us gr b tu tg tt tus tgr tb x20 x22 x23 x27 x28 x32 x33 x37 x38 x42 x43 x47 x48 x53 x54 x57 d v w' := by
  intro d v w w' _ hb h
  unfold textV at h ⊢
  split at h
  all_goals first | exact h | (obtain ⟨G, h1, h2⟩ := h; exact ⟨G, h1, keepC h2 hb⟩)
set_option maxHeartbeats 8000000 in
set_option maxRecDepth 8000 in
theorem entText_spec (k : Int) (p l : ByteArray) (m u g t : Int) (us gr b : ByteArray) (w : World) (hp : p.size ≤ 4194304) (hl : l.size ≤ 4194304) (hus : us.size ≤ 4194304) (hgr : gr.size ≤ 4194304) (hbz : b.size ≤ 4194304) :
    Calls Tryd.prog 6 #[.agg #[.int .i64 k, .string p, .string l, .int .i64 m, .int .i64 u, .int .i64 g, .int .i64 t, .string us, .string gr, .string b]] w fun e w' => e = .returned (.string (entTextv ⟨k, p, l, m, u, g, t, us, gr, b⟩)) ∧ Below w.heap.size w w' := by
  have HO := Lib.hid (fun w => entryOk_spec k p l m u g t us gr b w hp hl hus hgr hbz)
  cases hok : entOkv ⟨k, p, l, m, u, g, t, us, gr, b⟩ with
  | false =>
    have HF : Hid (entTextv ⟨k, p, l, m, u, g, t, us, gr, b⟩ = ⟨#[]⟩) := Lib.hid (by rw [entTextv, if_neg (by rw [hok]; simp)])
    rw [hok] at HO
    generalize entTextv ⟨k, p, l, m, u, g, t, us, gr, b⟩ = r at HF
    clear hok
    go_enter Tryd.func6, Tryd.ntmps6
    go_wp2_with fail
    refine (HO.out _).mono ?_
    rintro e w1 ⟨rfl, hb⟩
    obtain ⟨_, bb, _⟩ := one_new (e1 := ⟨k, p, l, m, u, g, t, us, gr, b⟩) hb
    have B1 := Lib.hid bb
    clear hb bb
    go_wp2_with fail
    go_ret
    exact ⟨ret_str HF.out.symm, B1.out⟩
  | true =>
    have HZ := Lib.hid (entText_zero hok)
    have HL := Lib.hid (entText_link hok)
    obtain ⟨hk, hm, hu, hg, ht, hp2, hus2, hgr2, hb2, hl2⟩ := entOk_parts hok
    dsimp only at hk hm hu hg ht hp2 hus2 hgr2 hb2 hl2 HZ HL
    rw [hok] at HO
    clear hok hp hl hus hgr hbz
    generalize entTextv ⟨k, p, l, m, u, g, t, us, gr, b⟩ = r at HZ HL
    have HM := Lib.hid (fun w => putOct_spec m 4 w)
    have HU := Lib.hid (fun w => decText_spec u (by omega) (by omega) w)
    have HGd := Lib.hid (fun w => decText_spec g (by omega) (by omega) w)
    have HT := Lib.hid (fun w => decText_spec t (by omega) (by omega) w)
    have HBd := Lib.hid (fun w => decText_spec b.size (by omega) (by omega) w)
    have HUs := Lib.hid (fun w => or_spec us w)
    have HGr := Lib.hid (fun w => or_spec gr w)
    have z1 := oct_size m
    have z2 := dec_size u (by omega) (by omega)
    have z3 := dec_size g (by omega) (by omega)
    have z4 := dec_size t (by omega) (by omega)
    have z5 := dec_size b.size (by omega) (by omega)
    have z6 := or_size us hus2
    have z7 := or_size gr hgr2
    generalize (putOctv m 4).1 = tm at HM HZ HL z1
    generalize (putOctv m 4).2 = tm2 at HM
    generalize decTextv u = tu at HU HZ HL z2
    generalize decTextv g = tg at HGd HZ HL z3
    generalize decTextv t = tt at HT HZ HL z4
    generalize decTextv b.size = tb at HBd HZ HL z5
    generalize orV us = tus at HUs HZ HL z6
    generalize orV gr = tgr at HGr HZ HL z7
    have hbs : (b.size : Int) ≤ 3000 := by omega
    clear hb2
    rcases hk with rfl | rfl | rfl | rfl
    · obtain ⟨kc, hkc⟩ : ∃ kc : ByteArray, kc = ⟨#[102]⟩ := ⟨_, rfl⟩
      have HK : Hid (kindCh 0 = kc) := Lib.hid (by rw [hkc]; rfl)
      have zk : kc.size ≤ 1 := by rw [hkc]; decide
      rw [HK.out] at HZ HL
      obtain ⟨x20, hx20⟩ : ∃ x : ByteArray, x = kc ++ ⟨#[32]⟩ := ⟨_, rfl⟩
      obtain ⟨x22, hx22⟩ : ∃ x : ByteArray, x = x20 ++ tm := ⟨_, rfl⟩
      obtain ⟨x23, hx23⟩ : ∃ x : ByteArray, x = x22 ++ ⟨#[32]⟩ := ⟨_, rfl⟩
      obtain ⟨x27, hx27⟩ : ∃ x : ByteArray, x = x23 ++ tu := ⟨_, rfl⟩
      obtain ⟨x28, hx28⟩ : ∃ x : ByteArray, x = x27 ++ ⟨#[32]⟩ := ⟨_, rfl⟩
      obtain ⟨x32, hx32⟩ : ∃ x : ByteArray, x = x28 ++ tg := ⟨_, rfl⟩
      obtain ⟨x33, hx33⟩ : ∃ x : ByteArray, x = x32 ++ ⟨#[32]⟩ := ⟨_, rfl⟩
      obtain ⟨x37, hx37⟩ : ∃ x : ByteArray, x = x33 ++ tt := ⟨_, rfl⟩
      obtain ⟨x38, hx38⟩ : ∃ x : ByteArray, x = x37 ++ ⟨#[32]⟩ := ⟨_, rfl⟩
      obtain ⟨x42, hx42⟩ : ∃ x : ByteArray, x = x38 ++ tus := ⟨_, rfl⟩
      obtain ⟨x43, hx43⟩ : ∃ x : ByteArray, x = x42 ++ ⟨#[32]⟩ := ⟨_, rfl⟩
      obtain ⟨x47, hx47⟩ : ∃ x : ByteArray, x = x43 ++ tgr := ⟨_, rfl⟩
      obtain ⟨x48, hx48⟩ : ∃ x : ByteArray, x = x47 ++ ⟨#[32]⟩ := ⟨_, rfl⟩
      obtain ⟨x53, hx53⟩ : ∃ x : ByteArray, x = x48 ++ tb := ⟨_, rfl⟩
      obtain ⟨x54, hx54⟩ : ∃ x : ByteArray, x = x53 ++ ⟨#[32]⟩ := ⟨_, rfl⟩
      obtain ⟨x57, hx57⟩ : ∃ x : ByteArray, x = x54 ++ p := ⟨_, rfl⟩
      have zsp : (⟨#[32]⟩ : ByteArray).size = 1 := rfl
      have zx20 : x20.size ≤ 2 := by rw [hx20, ByteArray.size_append]; omega
      have zx22 : x22.size ≤ 6 := by rw [hx22, ByteArray.size_append]; omega
      have zx23 : x23.size ≤ 7 := by rw [hx23, ByteArray.size_append]; omega
      have zx27 : x27.size ≤ 19 := by rw [hx27, ByteArray.size_append]; omega
      have zx28 : x28.size ≤ 20 := by rw [hx28, ByteArray.size_append]; omega
      have zx32 : x32.size ≤ 32 := by rw [hx32, ByteArray.size_append]; omega
      have zx33 : x33.size ≤ 33 := by rw [hx33, ByteArray.size_append]; omega
      have zx37 : x37.size ≤ 45 := by rw [hx37, ByteArray.size_append]; omega
      have zx38 : x38.size ≤ 46 := by rw [hx38, ByteArray.size_append]; omega
      have zx42 : x42.size ≤ 66 := by rw [hx42, ByteArray.size_append]; omega
      have zx43 : x43.size ≤ 67 := by rw [hx43, ByteArray.size_append]; omega
      have zx47 : x47.size ≤ 87 := by rw [hx47, ByteArray.size_append]; omega
      have zx48 : x48.size ≤ 88 := by rw [hx48, ByteArray.size_append]; omega
      have zx53 : x53.size ≤ 100 := by rw [hx53, ByteArray.size_append]; omega
      have zx54 : x54.size ≤ 101 := by rw [hx54, ByteArray.size_append]; omega
      have zx57 : x57.size ≤ 301 := by rw [hx57, ByteArray.size_append]; omega
      have HX : Hid (x57 = nineS kc tm tu tg tt tus tgr tb p) := Lib.hid (by subst hx57 hx54 hx53 hx48 hx47 hx43 hx42 hx38 hx37 hx33 hx32 hx28 hx27 hx23 hx22 hx20; rfl)
      have HA20 : Hid (∀ w, (Op.stringOp .add kc ⟨#[32]⟩).run Tryd.prog w = .ok (.string x20) w) := Lib.hid (fun w => by rw [hx20]; exact run_string_add_sum w _ _ (by omega))
      have HA22 : Hid (∀ w, (Op.stringOp .add x20 tm).run Tryd.prog w = .ok (.string x22) w) := Lib.hid (fun w => by rw [hx22]; exact run_string_add_sum w _ _ (by omega))
      have HA23 : Hid (∀ w, (Op.stringOp .add x22 ⟨#[32]⟩).run Tryd.prog w = .ok (.string x23) w) := Lib.hid (fun w => by rw [hx23]; exact run_string_add_sum w _ _ (by omega))
      have HA27 : Hid (∀ w, (Op.stringOp .add x23 tu).run Tryd.prog w = .ok (.string x27) w) := Lib.hid (fun w => by rw [hx27]; exact run_string_add_sum w _ _ (by omega))
      have HA28 : Hid (∀ w, (Op.stringOp .add x27 ⟨#[32]⟩).run Tryd.prog w = .ok (.string x28) w) := Lib.hid (fun w => by rw [hx28]; exact run_string_add_sum w _ _ (by omega))
      have HA32 : Hid (∀ w, (Op.stringOp .add x28 tg).run Tryd.prog w = .ok (.string x32) w) := Lib.hid (fun w => by rw [hx32]; exact run_string_add_sum w _ _ (by omega))
      have HA33 : Hid (∀ w, (Op.stringOp .add x32 ⟨#[32]⟩).run Tryd.prog w = .ok (.string x33) w) := Lib.hid (fun w => by rw [hx33]; exact run_string_add_sum w _ _ (by omega))
      have HA37 : Hid (∀ w, (Op.stringOp .add x33 tt).run Tryd.prog w = .ok (.string x37) w) := Lib.hid (fun w => by rw [hx37]; exact run_string_add_sum w _ _ (by omega))
      have HA38 : Hid (∀ w, (Op.stringOp .add x37 ⟨#[32]⟩).run Tryd.prog w = .ok (.string x38) w) := Lib.hid (fun w => by rw [hx38]; exact run_string_add_sum w _ _ (by omega))
      have HA42 : Hid (∀ w, (Op.stringOp .add x38 tus).run Tryd.prog w = .ok (.string x42) w) := Lib.hid (fun w => by rw [hx42]; exact run_string_add_sum w _ _ (by omega))
      have HA43 : Hid (∀ w, (Op.stringOp .add x42 ⟨#[32]⟩).run Tryd.prog w = .ok (.string x43) w) := Lib.hid (fun w => by rw [hx43]; exact run_string_add_sum w _ _ (by omega))
      have HA47 : Hid (∀ w, (Op.stringOp .add x43 tgr).run Tryd.prog w = .ok (.string x47) w) := Lib.hid (fun w => by rw [hx47]; exact run_string_add_sum w _ _ (by omega))
      have HA48 : Hid (∀ w, (Op.stringOp .add x47 ⟨#[32]⟩).run Tryd.prog w = .ok (.string x48) w) := Lib.hid (fun w => by rw [hx48]; exact run_string_add_sum w _ _ (by omega))
      have HA53 : Hid (∀ w, (Op.stringOp .add x48 tb).run Tryd.prog w = .ok (.string x53) w) := Lib.hid (fun w => by rw [hx53]; exact run_string_add_sum w _ _ (by omega))
      have HA54 : Hid (∀ w, (Op.stringOp .add x53 ⟨#[32]⟩).run Tryd.prog w = .ok (.string x54) w) := Lib.hid (fun w => by rw [hx54]; exact run_string_add_sum w _ _ (by omega))
      have HA57 : Hid (∀ w, (Op.stringOp .add x54 p).run Tryd.prog w = .ok (.string x57) w) := Lib.hid (fun w => by rw [hx57]; exact run_string_add_sum w _ _ (by omega))
      rw [← HX.out] at HZ HL
      clear hx57 hx54 hx53 hx48 hx47 hx43 hx42 hx38 hx37 hx33 hx32 hx28 hx27 hx23 hx22 hx20 HX
      have HKC := Lib.hid hkc
      clear hkc
      go_enter Tryd.func6, Tryd.ntmps6
      go_wp2_with fail
      refine (HO.out _).mono ?_
      rintro e w1 ⟨rfl, hb⟩
      obtain ⟨k1, bb, zb⟩ := one_new (e1 := ⟨_, p, l, m, u, g, t, us, gr, b⟩) hb
      have E1 := Lib.hid k1
      have B1 := Lib.hid bb
      clear hb k1 bb HO
      obtain ⟨c0, c1, c2, c3, c4, c5, c6, c7, c8, c9⟩ := E1.out.zero
      go_wp2_with (go_at_call 15; refine (HM.out _).mono ?_; rintro e _ ⟨rfl, rfl⟩)
      have KC : Hid (∀ w', Below w1.heap.size w1 w' → w'.cell? ⟨w.heap.size, 0, none⟩ = some (.int .i64 0) ∧ w'.cell? ⟨w.heap.size, 1, none⟩ = some (.string p) ∧ w'.cell? ⟨w.heap.size, 4, none⟩ = some (.int .i64 u) ∧ w'.cell? ⟨w.heap.size, 5, none⟩ = some (.int .i64 g) ∧ w'.cell? ⟨w.heap.size, 6, none⟩ = some (.int .i64 t) ∧ w'.cell? ⟨w.heap.size, 7, none⟩ = some (.string us) ∧ w'.cell? ⟨w.heap.size, 8, none⟩ = some (.string gr) ∧ w'.cell? ⟨w.heap.size, 9, none⟩ = some (.string b)) := Lib.hid (fun w' hb => ⟨(hb.cell (p := ⟨w.heap.size, 0, none⟩) zb).trans c0, (hb.cell (p := ⟨w.heap.size, 1, none⟩) zb).trans c1, (hb.cell (p := ⟨w.heap.size, 4, none⟩) zb).trans c4, (hb.cell (p := ⟨w.heap.size, 5, none⟩) zb).trans c5, (hb.cell (p := ⟨w.heap.size, 6, none⟩) zb).trans c6, (hb.cell (p := ⟨w.heap.size, 7, none⟩) zb).trans c7, (hb.cell (p := ⟨w.heap.size, 8, none⟩) zb).trans c8, (hb.cell (p := ⟨w.heap.size, 9, none⟩) zb).trans c9⟩)
      clear c0 c1 c2 c3 c4 c5 c6 c7 c8 c9
      refine wp_region_inv (by kernel_rfl) (fun w' => Below w1.heap.size w1 w') (fun x y => Below x.heap.size x y) (textV w.heap.size 0 0 kc p tm u g t us gr b tu tg tt tus tgr tb x20 x22 x23 x27 x28 x32 x33 x37 x38 x42 x43 x47 x48 x53 x54 x57) (by kernel_rfl) (kd0 w1) (textV_keep _ _ _ _ _ _ _ _ _ _ _ _ _ _ _ _ _ _ _ _ _ _ _ _ _ _ _ _ _ _ _ _ _ _) ?hops ?hend
      case hops =>
        simp only [List.forall_mem_cons]
        refine ⟨?o15, ?o16, ?o17, ?o18, ?o19, ?o20, ?o21, ?o22, ?o23, ?o24, ?o25, ?o26, ?o27, ?o28, ?o29, ?o30, ?o31, ?o32, ?o33, ?o34, ?o35, ?o36, ?o37, ?o38, ?o39, ?o40, ?o41, ?o42, ?o43, ?o44, ?o45, ?o46, ?o47, ?o48, ?o49, ?o50, ?o51, ?o52, ?o53, ?o54, ?o55, ?o56, ?o57, ?o5, fun _ h => by cases h⟩
        case o15 =>
          intro Q a w2 hC hV hI
          refine op_val (.slice (some ⟨w2.heap.size, 0, none⟩) 4 4) (w' := w2.alloc (.cells #[.string ⟨#[102]⟩, .string ⟨#[100]⟩, .string ⟨#[108]⟩, .string ⟨#[104]⟩] 9)) ?_ (hC.alloc hC.size _) ((Below.refl _ _).alloc (Nat.le_refl _) _) ?_
          · (clear hV hI hC; go_simp <;> (first | rfl | simp))
          · intro d hd; cases hd; exact ⟨w2.heap.size, rfl, by rw [HKC.out]; simp⟩
        case o16 =>
          intro Q a w2 hC hV hI
          have e1 : a.eval (.tmp 1) = .pointer (some ⟨w.heap.size, 0, none⟩) := (hI 1 (by simp [Op.operands]) (by kernel_rfl)).trans rfl
          have f1 : a.tmps.getD 1 undef = .pointer (some ⟨w.heap.size, 0, none⟩) := e1
          have g1 : a.tmps[1]?.getD undef = .pointer (some ⟨w.heap.size, 0, none⟩) := by rw [← Array.getD_eq_getD_getElem?]; exact e1
          refine op_val (.pointer (some ⟨w.heap.size, 0, none⟩)) ?_ hC (Below.refl _ _) (by intro d hd; cases hd; rfl)
          (clear hV hI hC; go_simp <;> (first | rfl | simp))
        case o17 =>
          intro Q a w2 hC hV hI
          have e16 : a.eval (.tmp 16) = .pointer (some ⟨w.heap.size, 0, none⟩) := hV 16 (by simp [Op.operands]) (by kernel_rfl)
          have f16 : a.tmps.getD 16 undef = .pointer (some ⟨w.heap.size, 0, none⟩) := e16
          have g16 : a.tmps[16]?.getD undef = .pointer (some ⟨w.heap.size, 0, none⟩) := by rw [← Array.getD_eq_getD_getElem?]; exact e16
          obtain ⟨d0, d1, d4, d5, d6, d7, d8, d9⟩ := KC.out w2 hC
          refine op_val (.int .i64 0) ?_ hC (Below.refl _ _) (by intro d hd; cases hd; rfl)
          (clear hV hI hC; go_simp <;> (first | rfl | simp))
        case o18 =>
          intro Q a w2 hC hV hI
          obtain ⟨G, e15, hc⟩ : ∃ G, a.eval (.tmp 15) = .slice (some ⟨G, 0, none⟩) 4 4 ∧ w2.cell? ⟨G, 0, none⟩ = some (.string kc) := hV 15 (by simp [Op.operands]) (by kernel_rfl)
          have g15 : a.tmps[15]?.getD undef = .slice (some ⟨G, 0, none⟩) 4 4 := by rw [← Array.getD_eq_getD_getElem?]; exact e15
          have e17 : a.eval (.tmp 17) = .int .i64 0 := hV 17 (by simp [Op.operands]) (by kernel_rfl)
          have f17 : a.tmps.getD 17 undef = .int .i64 0 := e17
          have g17 : a.tmps[17]?.getD undef = .int .i64 0 := by rw [← Array.getD_eq_getD_getElem?]; exact e17
          refine op_val (.pointer (some ⟨G, 0, none⟩)) ?_ hC (Below.refl _ _) ?_
          · (clear hV hI hC; go_simp <;> (first | rfl | simp))
          · intro d hd; cases hd; exact ⟨_, rfl, hc⟩
        case o19 =>
          intro Q a w2 hC hV hI
          obtain ⟨A, e18, hc⟩ : ∃ A, a.eval (.tmp 18) = .pointer (some A) ∧ w2.cell? A = some (.string kc) := hV 18 (by simp [Op.operands]) (by kernel_rfl)
          have g18 : a.tmps[18]?.getD undef = .pointer (some A) := by rw [← Array.getD_eq_getD_getElem?]; exact e18
          refine op_val (.string kc) ?_ hC (Below.refl _ _) (by intro d hd; cases hd; rfl)
          (clear hV hI hC; go_simp <;> (first | rfl | simp))
        case o20 =>
          intro Q a w2 hC hV hI
          have e19 : a.eval (.tmp 19) = .string kc := hV 19 (by simp [Op.operands]) (by kernel_rfl)
          have f19 : a.tmps.getD 19 undef = .string kc := e19
          have g19 : a.tmps[19]?.getD undef = .string kc := by rw [← Array.getD_eq_getD_getElem?]; exact e19
          refine op_val (.string x20) ?_ hC (Below.refl _ _) (by intro d hd; cases hd; rfl)
          have q := HA20.out w2
          (clear hV hI hC; go_simp <;> (first | rfl | simp))
        case o21 =>
          intro Q a w2 hC hV hI
          have e3 : a.eval (.tmp 3) = .string tm := (hI 3 (by simp [Op.operands]) (by kernel_rfl)).trans rfl
          have f3 : a.tmps.getD 3 undef = .string tm := e3
          have g3 : a.tmps[3]?.getD undef = .string tm := by rw [← Array.getD_eq_getD_getElem?]; exact e3
          refine op_val (.string tm) ?_ hC (Below.refl _ _) (by intro d hd; cases hd; rfl)
          (clear hV hI hC; go_simp <;> (first | rfl | simp))
        case o22 =>
          intro Q a w2 hC hV hI
          have e20 : a.eval (.tmp 20) = .string x20 := hV 20 (by simp [Op.operands]) (by kernel_rfl)
          have f20 : a.tmps.getD 20 undef = .string x20 := e20
          have g20 : a.tmps[20]?.getD undef = .string x20 := by rw [← Array.getD_eq_getD_getElem?]; exact e20
          have e21 : a.eval (.tmp 21) = .string tm := hV 21 (by simp [Op.operands]) (by kernel_rfl)
          have f21 : a.tmps.getD 21 undef = .string tm := e21
          have g21 : a.tmps[21]?.getD undef = .string tm := by rw [← Array.getD_eq_getD_getElem?]; exact e21
          refine op_val (.string x22) ?_ hC (Below.refl _ _) (by intro d hd; cases hd; rfl)
          have q := HA22.out w2
          (clear hV hI hC; go_simp <;> (first | rfl | simp))
        case o23 =>
          intro Q a w2 hC hV hI
          have e22 : a.eval (.tmp 22) = .string x22 := hV 22 (by simp [Op.operands]) (by kernel_rfl)
          have f22 : a.tmps.getD 22 undef = .string x22 := e22
          have g22 : a.tmps[22]?.getD undef = .string x22 := by rw [← Array.getD_eq_getD_getElem?]; exact e22
          refine op_val (.string x23) ?_ hC (Below.refl _ _) (by intro d hd; cases hd; rfl)
          have q := HA23.out w2
          (clear hV hI hC; go_simp <;> (first | rfl | simp))
        case o24 =>
          intro Q a w2 hC hV hI
          have e1 : a.eval (.tmp 1) = .pointer (some ⟨w.heap.size, 0, none⟩) := (hI 1 (by simp [Op.operands]) (by kernel_rfl)).trans rfl
          have f1 : a.tmps.getD 1 undef = .pointer (some ⟨w.heap.size, 0, none⟩) := e1
          have g1 : a.tmps[1]?.getD undef = .pointer (some ⟨w.heap.size, 0, none⟩) := by rw [← Array.getD_eq_getD_getElem?]; exact e1
          refine op_val (.pointer (some ⟨w.heap.size, 4, none⟩)) ?_ hC (Below.refl _ _) (by intro d hd; cases hd; rfl)
          (clear hV hI hC; go_simp <;> (first | rfl | simp))
        case o25 =>
          intro Q a w2 hC hV hI
          have e24 : a.eval (.tmp 24) = .pointer (some ⟨w.heap.size, 4, none⟩) := hV 24 (by simp [Op.operands]) (by kernel_rfl)
          have f24 : a.tmps.getD 24 undef = .pointer (some ⟨w.heap.size, 4, none⟩) := e24
          have g24 : a.tmps[24]?.getD undef = .pointer (some ⟨w.heap.size, 4, none⟩) := by rw [← Array.getD_eq_getD_getElem?]; exact e24
          obtain ⟨d0, d1, d4, d5, d6, d7, d8, d9⟩ := KC.out w2 hC
          refine op_val (.int .i64 u) ?_ hC (Below.refl _ _) (by intro d hd; cases hd; rfl)
          (clear hV hI hC; go_simp <;> (first | rfl | simp))
        case o26 =>
          intro Q a w2 hC hV hI
          have e25 : a.eval (.tmp 25) = .int .i64 u := hV 25 (by simp [Op.operands, Call.operands]) (by kernel_rfl)
          have f25 : a.tmps.getD 25 undef = .int .i64 u := e25
          have g25 : a.tmps[25]?.getD undef = .int .i64 u := by rw [← Array.getD_eq_getD_getElem?]; exact e25
          refine op_call (f := 16) (args := #[.int .i64 u]) (R := fun v y => v = .string tu ∧ w2 = y) ?_ ((HU.out w2).mono ?_) ?_
          · (clear hV hI hC; go_simp <;> (first | rfl | simp))
          · rintro e y ⟨rfl, rfl⟩; exact ⟨_, rfl, rfl, rfl⟩
          · rintro v y ⟨rfl, rfl⟩; exact ⟨hC, Below.refl _ _, by intro d hd; cases hd; rfl⟩
        case o27 =>
          intro Q a w2 hC hV hI
          have e23 : a.eval (.tmp 23) = .string x23 := hV 23 (by simp [Op.operands]) (by kernel_rfl)
          have f23 : a.tmps.getD 23 undef = .string x23 := e23
          have g23 : a.tmps[23]?.getD undef = .string x23 := by rw [← Array.getD_eq_getD_getElem?]; exact e23
          have e26 : a.eval (.tmp 26) = .string tu := hV 26 (by simp [Op.operands]) (by kernel_rfl)
          have f26 : a.tmps.getD 26 undef = .string tu := e26
          have g26 : a.tmps[26]?.getD undef = .string tu := by rw [← Array.getD_eq_getD_getElem?]; exact e26
          refine op_val (.string x27) ?_ hC (Below.refl _ _) (by intro d hd; cases hd; rfl)
          have q := HA27.out w2
          (clear hV hI hC; go_simp <;> (first | rfl | simp))
        case o28 =>
          intro Q a w2 hC hV hI
          have e27 : a.eval (.tmp 27) = .string x27 := hV 27 (by simp [Op.operands]) (by kernel_rfl)
          have f27 : a.tmps.getD 27 undef = .string x27 := e27
          have g27 : a.tmps[27]?.getD undef = .string x27 := by rw [← Array.getD_eq_getD_getElem?]; exact e27
          refine op_val (.string x28) ?_ hC (Below.refl _ _) (by intro d hd; cases hd; rfl)
          have q := HA28.out w2
          (clear hV hI hC; go_simp <;> (first | rfl | simp))
        case o29 =>
          intro Q a w2 hC hV hI
          have e1 : a.eval (.tmp 1) = .pointer (some ⟨w.heap.size, 0, none⟩) := (hI 1 (by simp [Op.operands]) (by kernel_rfl)).trans rfl
          have f1 : a.tmps.getD 1 undef = .pointer (some ⟨w.heap.size, 0, none⟩) := e1
          have g1 : a.tmps[1]?.getD undef = .pointer (some ⟨w.heap.size, 0, none⟩) := by rw [← Array.getD_eq_getD_getElem?]; exact e1
          refine op_val (.pointer (some ⟨w.heap.size, 5, none⟩)) ?_ hC (Below.refl _ _) (by intro d hd; cases hd; rfl)
          (clear hV hI hC; go_simp <;> (first | rfl | simp))
        case o30 =>
          intro Q a w2 hC hV hI
          have e29 : a.eval (.tmp 29) = .pointer (some ⟨w.heap.size, 5, none⟩) := hV 29 (by simp [Op.operands]) (by kernel_rfl)
          have f29 : a.tmps.getD 29 undef = .pointer (some ⟨w.heap.size, 5, none⟩) := e29
          have g29 : a.tmps[29]?.getD undef = .pointer (some ⟨w.heap.size, 5, none⟩) := by rw [← Array.getD_eq_getD_getElem?]; exact e29
          obtain ⟨d0, d1, d4, d5, d6, d7, d8, d9⟩ := KC.out w2 hC
          refine op_val (.int .i64 g) ?_ hC (Below.refl _ _) (by intro d hd; cases hd; rfl)
          (clear hV hI hC; go_simp <;> (first | rfl | simp))
        case o31 =>
          intro Q a w2 hC hV hI
          have e30 : a.eval (.tmp 30) = .int .i64 g := hV 30 (by simp [Op.operands, Call.operands]) (by kernel_rfl)
          have f30 : a.tmps.getD 30 undef = .int .i64 g := e30
          have g30 : a.tmps[30]?.getD undef = .int .i64 g := by rw [← Array.getD_eq_getD_getElem?]; exact e30
          refine op_call (f := 16) (args := #[.int .i64 g]) (R := fun v y => v = .string tg ∧ w2 = y) ?_ ((HGd.out w2).mono ?_) ?_
          · (clear hV hI hC; go_simp <;> (first | rfl | simp))
          · rintro e y ⟨rfl, rfl⟩; exact ⟨_, rfl, rfl, rfl⟩
          · rintro v y ⟨rfl, rfl⟩; exact ⟨hC, Below.refl _ _, by intro d hd; cases hd; rfl⟩
        case o32 =>
          intro Q a w2 hC hV hI
          have e28 : a.eval (.tmp 28) = .string x28 := hV 28 (by simp [Op.operands]) (by kernel_rfl)
          have f28 : a.tmps.getD 28 undef = .string x28 := e28
          have g28 : a.tmps[28]?.getD undef = .string x28 := by rw [← Array.getD_eq_getD_getElem?]; exact e28
          have e31 : a.eval (.tmp 31) = .string tg := hV 31 (by simp [Op.operands]) (by kernel_rfl)
          have f31 : a.tmps.getD 31 undef = .string tg := e31
          have g31 : a.tmps[31]?.getD undef = .string tg := by rw [← Array.getD_eq_getD_getElem?]; exact e31
          refine op_val (.string x32) ?_ hC (Below.refl _ _) (by intro d hd; cases hd; rfl)
          have q := HA32.out w2
          (clear hV hI hC; go_simp <;> (first | rfl | simp))
        case o33 =>
          intro Q a w2 hC hV hI
          have e32 : a.eval (.tmp 32) = .string x32 := hV 32 (by simp [Op.operands]) (by kernel_rfl)
          have f32 : a.tmps.getD 32 undef = .string x32 := e32
          have g32 : a.tmps[32]?.getD undef = .string x32 := by rw [← Array.getD_eq_getD_getElem?]; exact e32
          refine op_val (.string x33) ?_ hC (Below.refl _ _) (by intro d hd; cases hd; rfl)
          have q := HA33.out w2
          (clear hV hI hC; go_simp <;> (first | rfl | simp))
        case o34 =>
          intro Q a w2 hC hV hI
          have e1 : a.eval (.tmp 1) = .pointer (some ⟨w.heap.size, 0, none⟩) := (hI 1 (by simp [Op.operands]) (by kernel_rfl)).trans rfl
          have f1 : a.tmps.getD 1 undef = .pointer (some ⟨w.heap.size, 0, none⟩) := e1
          have g1 : a.tmps[1]?.getD undef = .pointer (some ⟨w.heap.size, 0, none⟩) := by rw [← Array.getD_eq_getD_getElem?]; exact e1
          refine op_val (.pointer (some ⟨w.heap.size, 6, none⟩)) ?_ hC (Below.refl _ _) (by intro d hd; cases hd; rfl)
          (clear hV hI hC; go_simp <;> (first | rfl | simp))
        case o35 =>
          intro Q a w2 hC hV hI
          have e34 : a.eval (.tmp 34) = .pointer (some ⟨w.heap.size, 6, none⟩) := hV 34 (by simp [Op.operands]) (by kernel_rfl)
          have f34 : a.tmps.getD 34 undef = .pointer (some ⟨w.heap.size, 6, none⟩) := e34
          have g34 : a.tmps[34]?.getD undef = .pointer (some ⟨w.heap.size, 6, none⟩) := by rw [← Array.getD_eq_getD_getElem?]; exact e34
          obtain ⟨d0, d1, d4, d5, d6, d7, d8, d9⟩ := KC.out w2 hC
          refine op_val (.int .i64 t) ?_ hC (Below.refl _ _) (by intro d hd; cases hd; rfl)
          (clear hV hI hC; go_simp <;> (first | rfl | simp))
        case o36 =>
          intro Q a w2 hC hV hI
          have e35 : a.eval (.tmp 35) = .int .i64 t := hV 35 (by simp [Op.operands, Call.operands]) (by kernel_rfl)
          have f35 : a.tmps.getD 35 undef = .int .i64 t := e35
          have g35 : a.tmps[35]?.getD undef = .int .i64 t := by rw [← Array.getD_eq_getD_getElem?]; exact e35
          refine op_call (f := 16) (args := #[.int .i64 t]) (R := fun v y => v = .string tt ∧ w2 = y) ?_ ((HT.out w2).mono ?_) ?_
          · (clear hV hI hC; go_simp <;> (first | rfl | simp))
          · rintro e y ⟨rfl, rfl⟩; exact ⟨_, rfl, rfl, rfl⟩
          · rintro v y ⟨rfl, rfl⟩; exact ⟨hC, Below.refl _ _, by intro d hd; cases hd; rfl⟩
        case o37 =>
          intro Q a w2 hC hV hI
          have e33 : a.eval (.tmp 33) = .string x33 := hV 33 (by simp [Op.operands]) (by kernel_rfl)
          have f33 : a.tmps.getD 33 undef = .string x33 := e33
          have g33 : a.tmps[33]?.getD undef = .string x33 := by rw [← Array.getD_eq_getD_getElem?]; exact e33
          have e36 : a.eval (.tmp 36) = .string tt := hV 36 (by simp [Op.operands]) (by kernel_rfl)
          have f36 : a.tmps.getD 36 undef = .string tt := e36
          have g36 : a.tmps[36]?.getD undef = .string tt := by rw [← Array.getD_eq_getD_getElem?]; exact e36
          refine op_val (.string x37) ?_ hC (Below.refl _ _) (by intro d hd; cases hd; rfl)
          have q := HA37.out w2
          (clear hV hI hC; go_simp <;> (first | rfl | simp))
        case o38 =>
          intro Q a w2 hC hV hI
          have e37 : a.eval (.tmp 37) = .string x37 := hV 37 (by simp [Op.operands]) (by kernel_rfl)
          have f37 : a.tmps.getD 37 undef = .string x37 := e37
          have g37 : a.tmps[37]?.getD undef = .string x37 := by rw [← Array.getD_eq_getD_getElem?]; exact e37
          refine op_val (.string x38) ?_ hC (Below.refl _ _) (by intro d hd; cases hd; rfl)
          have q := HA38.out w2
          (clear hV hI hC; go_simp <;> (first | rfl | simp))
        case o39 =>
          intro Q a w2 hC hV hI
          have e1 : a.eval (.tmp 1) = .pointer (some ⟨w.heap.size, 0, none⟩) := (hI 1 (by simp [Op.operands]) (by kernel_rfl)).trans rfl
          have f1 : a.tmps.getD 1 undef = .pointer (some ⟨w.heap.size, 0, none⟩) := e1
          have g1 : a.tmps[1]?.getD undef = .pointer (some ⟨w.heap.size, 0, none⟩) := by rw [← Array.getD_eq_getD_getElem?]; exact e1
          refine op_val (.pointer (some ⟨w.heap.size, 7, none⟩)) ?_ hC (Below.refl _ _) (by intro d hd; cases hd; rfl)
          (clear hV hI hC; go_simp <;> (first | rfl | simp))
        case o40 =>
          intro Q a w2 hC hV hI
          have e39 : a.eval (.tmp 39) = .pointer (some ⟨w.heap.size, 7, none⟩) := hV 39 (by simp [Op.operands]) (by kernel_rfl)
          have f39 : a.tmps.getD 39 undef = .pointer (some ⟨w.heap.size, 7, none⟩) := e39
          have g39 : a.tmps[39]?.getD undef = .pointer (some ⟨w.heap.size, 7, none⟩) := by rw [← Array.getD_eq_getD_getElem?]; exact e39
          obtain ⟨d0, d1, d4, d5, d6, d7, d8, d9⟩ := KC.out w2 hC
          refine op_val (.string us) ?_ hC (Below.refl _ _) (by intro d hd; cases hd; rfl)
          (clear hV hI hC; go_simp <;> (first | rfl | simp))
        case o41 =>
          intro Q a w2 hC hV hI
          have e40 : a.eval (.tmp 40) = .string us := hV 40 (by simp [Op.operands, Call.operands]) (by kernel_rfl)
          have f40 : a.tmps.getD 40 undef = .string us := e40
          have g40 : a.tmps[40]?.getD undef = .string us := by rw [← Array.getD_eq_getD_getElem?]; exact e40
          refine op_call (f := 17) (args := #[.string us]) (R := fun v y => v = .string tus ∧ w2 = y) ?_ ((HUs.out w2).mono ?_) ?_
          · (clear hV hI hC; go_simp <;> (first | rfl | simp))
          · rintro e y ⟨rfl, rfl⟩; exact ⟨_, rfl, rfl, rfl⟩
          · rintro v y ⟨rfl, rfl⟩; exact ⟨hC, Below.refl _ _, by intro d hd; cases hd; rfl⟩
        case o42 =>
          intro Q a w2 hC hV hI
          have e38 : a.eval (.tmp 38) = .string x38 := hV 38 (by simp [Op.operands]) (by kernel_rfl)
          have f38 : a.tmps.getD 38 undef = .string x38 := e38
          have g38 : a.tmps[38]?.getD undef = .string x38 := by rw [← Array.getD_eq_getD_getElem?]; exact e38
          have e41 : a.eval (.tmp 41) = .string tus := hV 41 (by simp [Op.operands]) (by kernel_rfl)
          have f41 : a.tmps.getD 41 undef = .string tus := e41
          have g41 : a.tmps[41]?.getD undef = .string tus := by rw [← Array.getD_eq_getD_getElem?]; exact e41
          refine op_val (.string x42) ?_ hC (Below.refl _ _) (by intro d hd; cases hd; rfl)
          have q := HA42.out w2
          (clear hV hI hC; go_simp <;> (first | rfl | simp))
        case o43 =>
          intro Q a w2 hC hV hI
          have e42 : a.eval (.tmp 42) = .string x42 := hV 42 (by simp [Op.operands]) (by kernel_rfl)
          have f42 : a.tmps.getD 42 undef = .string x42 := e42
          have g42 : a.tmps[42]?.getD undef = .string x42 := by rw [← Array.getD_eq_getD_getElem?]; exact e42
          refine op_val (.string x43) ?_ hC (Below.refl _ _) (by intro d hd; cases hd; rfl)
          have q := HA43.out w2
          (clear hV hI hC; go_simp <;> (first | rfl | simp))
        case o44 =>
          intro Q a w2 hC hV hI
          have e1 : a.eval (.tmp 1) = .pointer (some ⟨w.heap.size, 0, none⟩) := (hI 1 (by simp [Op.operands]) (by kernel_rfl)).trans rfl
          have f1 : a.tmps.getD 1 undef = .pointer (some ⟨w.heap.size, 0, none⟩) := e1
          have g1 : a.tmps[1]?.getD undef = .pointer (some ⟨w.heap.size, 0, none⟩) := by rw [← Array.getD_eq_getD_getElem?]; exact e1
          refine op_val (.pointer (some ⟨w.heap.size, 8, none⟩)) ?_ hC (Below.refl _ _) (by intro d hd; cases hd; rfl)
          (clear hV hI hC; go_simp <;> (first | rfl | simp))
        case o45 =>
          intro Q a w2 hC hV hI
          have e44 : a.eval (.tmp 44) = .pointer (some ⟨w.heap.size, 8, none⟩) := hV 44 (by simp [Op.operands]) (by kernel_rfl)
          have f44 : a.tmps.getD 44 undef = .pointer (some ⟨w.heap.size, 8, none⟩) := e44
          have g44 : a.tmps[44]?.getD undef = .pointer (some ⟨w.heap.size, 8, none⟩) := by rw [← Array.getD_eq_getD_getElem?]; exact e44
          obtain ⟨d0, d1, d4, d5, d6, d7, d8, d9⟩ := KC.out w2 hC
          refine op_val (.string gr) ?_ hC (Below.refl _ _) (by intro d hd; cases hd; rfl)
          (clear hV hI hC; go_simp <;> (first | rfl | simp))
        case o46 =>
          intro Q a w2 hC hV hI
          have e45 : a.eval (.tmp 45) = .string gr := hV 45 (by simp [Op.operands, Call.operands]) (by kernel_rfl)
          have f45 : a.tmps.getD 45 undef = .string gr := e45
          have g45 : a.tmps[45]?.getD undef = .string gr := by rw [← Array.getD_eq_getD_getElem?]; exact e45
          refine op_call (f := 17) (args := #[.string gr]) (R := fun v y => v = .string tgr ∧ w2 = y) ?_ ((HGr.out w2).mono ?_) ?_
          · (clear hV hI hC; go_simp <;> (first | rfl | simp))
          · rintro e y ⟨rfl, rfl⟩; exact ⟨_, rfl, rfl, rfl⟩
          · rintro v y ⟨rfl, rfl⟩; exact ⟨hC, Below.refl _ _, by intro d hd; cases hd; rfl⟩
        case o47 =>
          intro Q a w2 hC hV hI
          have e43 : a.eval (.tmp 43) = .string x43 := hV 43 (by simp [Op.operands]) (by kernel_rfl)
          have f43 : a.tmps.getD 43 undef = .string x43 := e43
          have g43 : a.tmps[43]?.getD undef = .string x43 := by rw [← Array.getD_eq_getD_getElem?]; exact e43
          have e46 : a.eval (.tmp 46) = .string tgr := hV 46 (by simp [Op.operands]) (by kernel_rfl)
          have f46 : a.tmps.getD 46 undef = .string tgr := e46
          have g46 : a.tmps[46]?.getD undef = .string tgr := by rw [← Array.getD_eq_getD_getElem?]; exact e46
          refine op_val (.string x47) ?_ hC (Below.refl _ _) (by intro d hd; cases hd; rfl)
          have q := HA47.out w2
          (clear hV hI hC; go_simp <;> (first | rfl | simp))
        case o48 =>
          intro Q a w2 hC hV hI
          have e47 : a.eval (.tmp 47) = .string x47 := hV 47 (by simp [Op.operands]) (by kernel_rfl)
          have f47 : a.tmps.getD 47 undef = .string x47 := e47
          have g47 : a.tmps[47]?.getD undef = .string x47 := by rw [← Array.getD_eq_getD_getElem?]; exact e47
          refine op_val (.string x48) ?_ hC (Below.refl _ _) (by intro d hd; cases hd; rfl)
          have q := HA48.out w2
          (clear hV hI hC; go_simp <;> (first | rfl | simp))
        case o49 =>
          intro Q a w2 hC hV hI
          have e1 : a.eval (.tmp 1) = .pointer (some ⟨w.heap.size, 0, none⟩) := (hI 1 (by simp [Op.operands]) (by kernel_rfl)).trans rfl
          have f1 : a.tmps.getD 1 undef = .pointer (some ⟨w.heap.size, 0, none⟩) := e1
          have g1 : a.tmps[1]?.getD undef = .pointer (some ⟨w.heap.size, 0, none⟩) := by rw [← Array.getD_eq_getD_getElem?]; exact e1
          refine op_val (.pointer (some ⟨w.heap.size, 9, none⟩)) ?_ hC (Below.refl _ _) (by intro d hd; cases hd; rfl)
          (clear hV hI hC; go_simp <;> (first | rfl | simp))
        case o50 =>
          intro Q a w2 hC hV hI
          have e49 : a.eval (.tmp 49) = .pointer (some ⟨w.heap.size, 9, none⟩) := hV 49 (by simp [Op.operands]) (by kernel_rfl)
          have f49 : a.tmps.getD 49 undef = .pointer (some ⟨w.heap.size, 9, none⟩) := e49
          have g49 : a.tmps[49]?.getD undef = .pointer (some ⟨w.heap.size, 9, none⟩) := by rw [← Array.getD_eq_getD_getElem?]; exact e49
          obtain ⟨d0, d1, d4, d5, d6, d7, d8, d9⟩ := KC.out w2 hC
          refine op_val (.string b) ?_ hC (Below.refl _ _) (by intro d hd; cases hd; rfl)
          (clear hV hI hC; go_simp <;> (first | rfl | simp))
        case o51 =>
          intro Q a w2 hC hV hI
          have e50 : a.eval (.tmp 50) = .string b := hV 50 (by simp [Op.operands, Call.operands]) (by kernel_rfl)
          have f50 : a.tmps.getD 50 undef = .string b := e50
          have g50 : a.tmps[50]?.getD undef = .string b := by rw [← Array.getD_eq_getD_getElem?]; exact e50
          refine op_val (.int .i64 (b.size : Int)) ?_ hC (Below.refl _ _) (by intro d hd; cases hd; rfl)
          (clear hV hI hC; go_simp <;> (first | rfl | simp))
        case o52 =>
          intro Q a w2 hC hV hI
          have e51 : a.eval (.tmp 51) = .int .i64 (b.size : Int) := hV 51 (by simp [Op.operands, Call.operands]) (by kernel_rfl)
          have f51 : a.tmps.getD 51 undef = .int .i64 (b.size : Int) := e51
          have g51 : a.tmps[51]?.getD undef = .int .i64 (b.size : Int) := by rw [← Array.getD_eq_getD_getElem?]; exact e51
          refine op_call (f := 16) (args := #[.int .i64 (b.size : Int)]) (R := fun v y => v = .string tb ∧ w2 = y) ?_ ((HBd.out w2).mono ?_) ?_
          · (clear hV hI hC; go_simp <;> (first | rfl | simp))
          · rintro e y ⟨rfl, rfl⟩; exact ⟨_, rfl, rfl, rfl⟩
          · rintro v y ⟨rfl, rfl⟩; exact ⟨hC, Below.refl _ _, by intro d hd; cases hd; rfl⟩
        case o53 =>
          intro Q a w2 hC hV hI
          have e48 : a.eval (.tmp 48) = .string x48 := hV 48 (by simp [Op.operands]) (by kernel_rfl)
          have f48 : a.tmps.getD 48 undef = .string x48 := e48
          have g48 : a.tmps[48]?.getD undef = .string x48 := by rw [← Array.getD_eq_getD_getElem?]; exact e48
          have e52 : a.eval (.tmp 52) = .string tb := hV 52 (by simp [Op.operands]) (by kernel_rfl)
          have f52 : a.tmps.getD 52 undef = .string tb := e52
          have g52 : a.tmps[52]?.getD undef = .string tb := by rw [← Array.getD_eq_getD_getElem?]; exact e52
          refine op_val (.string x53) ?_ hC (Below.refl _ _) (by intro d hd; cases hd; rfl)
          have q := HA53.out w2
          (clear hV hI hC; go_simp <;> (first | rfl | simp))
        case o54 =>
          intro Q a w2 hC hV hI
          have e53 : a.eval (.tmp 53) = .string x53 := hV 53 (by simp [Op.operands]) (by kernel_rfl)
          have f53 : a.tmps.getD 53 undef = .string x53 := e53
          have g53 : a.tmps[53]?.getD undef = .string x53 := by rw [← Array.getD_eq_getD_getElem?]; exact e53
          refine op_val (.string x54) ?_ hC (Below.refl _ _) (by intro d hd; cases hd; rfl)
          have q := HA54.out w2
          (clear hV hI hC; go_simp <;> (first | rfl | simp))
        case o55 =>
          intro Q a w2 hC hV hI
          have e1 : a.eval (.tmp 1) = .pointer (some ⟨w.heap.size, 0, none⟩) := (hI 1 (by simp [Op.operands]) (by kernel_rfl)).trans rfl
          have f1 : a.tmps.getD 1 undef = .pointer (some ⟨w.heap.size, 0, none⟩) := e1
          have g1 : a.tmps[1]?.getD undef = .pointer (some ⟨w.heap.size, 0, none⟩) := by rw [← Array.getD_eq_getD_getElem?]; exact e1
          refine op_val (.pointer (some ⟨w.heap.size, 1, none⟩)) ?_ hC (Below.refl _ _) (by intro d hd; cases hd; rfl)
          (clear hV hI hC; go_simp <;> (first | rfl | simp))
        case o56 =>
          intro Q a w2 hC hV hI
          have e55 : a.eval (.tmp 55) = .pointer (some ⟨w.heap.size, 1, none⟩) := hV 55 (by simp [Op.operands]) (by kernel_rfl)
          have f55 : a.tmps.getD 55 undef = .pointer (some ⟨w.heap.size, 1, none⟩) := e55
          have g55 : a.tmps[55]?.getD undef = .pointer (some ⟨w.heap.size, 1, none⟩) := by rw [← Array.getD_eq_getD_getElem?]; exact e55
          obtain ⟨d0, d1, d4, d5, d6, d7, d8, d9⟩ := KC.out w2 hC
          refine op_val (.string p) ?_ hC (Below.refl _ _) (by intro d hd; cases hd; rfl)
          (clear hV hI hC; go_simp <;> (first | rfl | simp))
        case o57 =>
          intro Q a w2 hC hV hI
          have e54 : a.eval (.tmp 54) = .string x54 := hV 54 (by simp [Op.operands]) (by kernel_rfl)
          have f54 : a.tmps.getD 54 undef = .string x54 := e54
          have g54 : a.tmps[54]?.getD undef = .string x54 := by rw [← Array.getD_eq_getD_getElem?]; exact e54
          have e56 : a.eval (.tmp 56) = .string p := hV 56 (by simp [Op.operands]) (by kernel_rfl)
          have f56 : a.tmps.getD 56 undef = .string p := e56
          have g56 : a.tmps[56]?.getD undef = .string p := by rw [← Array.getD_eq_getD_getElem?]; exact e56
          refine op_val (.string x57) ?_ hC (Below.refl _ _) (by intro d hd; cases hd; rfl)
          have q := HA57.out w2
          (clear hV hI hC; go_simp <;> (first | rfl | simp))
        case o5 =>
          intro Q a w2 hC hV hI
          have e57 : a.eval (.tmp 57) = .string x57 := hV 57 (by simp [Op.operands]) (by kernel_rfl)
          have f57 : a.tmps.getD 57 undef = .string x57 := e57
          have g57 : a.tmps[57]?.getD undef = .string x57 := by rw [← Array.getD_eq_getD_getElem?]; exact e57
          refine op_val (.string x57) ?_ hC (Below.refl _ _) (by intro d hd; cases hd; rfl)
          (clear hV hI hC; go_simp <;> (first | rfl | simp))
      case hend =>
        intro f w2 hC hall
        have E2 := Lib.hid (E1.out.below hC zb)
        have B2 := Lib.hid (btE B1.out hC)
        clear hC KC E1 B1 HA20 HA22 HA23 HA27 HA28 HA32 HA33 HA37 HA38 HA42 HA43 HA47 HA48 HA53 HA54 HA57
        simp only [List.forall_mem_cons] at hall
        obtain ⟨h15, h16, h17, h18, h19, h20, h21, h22, h23, h24, h25, h26, h27, h28, h29, h30, h31, h32, h33, h34, h35, h36, h37, h38, h39, h40, h41, h42, h43, h44, h45, h46, h47, h48, h49, h50, h51, h52, h53, h54, h55, h56, h57, h5, _⟩ := hall
        clear h15
        replace h16 : f 16 = .pointer (some ⟨w.heap.size, 0, none⟩) := h16 16 rfl
        replace h17 : f 17 = .int .i64 0 := h17 17 rfl
        clear h18
        replace h19 : f 19 = .string kc := h19 19 rfl
        replace h20 : f 20 = .string x20 := h20 20 rfl
        replace h21 : f 21 = .string tm := h21 21 rfl
        replace h22 : f 22 = .string x22 := h22 22 rfl
        replace h23 : f 23 = .string x23 := h23 23 rfl
        replace h24 : f 24 = .pointer (some ⟨w.heap.size, 4, none⟩) := h24 24 rfl
        replace h25 : f 25 = .int .i64 u := h25 25 rfl
        replace h26 : f 26 = .string tu := h26 26 rfl
        replace h27 : f 27 = .string x27 := h27 27 rfl
        replace h28 : f 28 = .string x28 := h28 28 rfl
        replace h29 : f 29 = .pointer (some ⟨w.heap.size, 5, none⟩) := h29 29 rfl
        replace h30 : f 30 = .int .i64 g := h30 30 rfl
        replace h31 : f 31 = .string tg := h31 31 rfl
        replace h32 : f 32 = .string x32 := h32 32 rfl
        replace h33 : f 33 = .string x33 := h33 33 rfl
        replace h34 : f 34 = .pointer (some ⟨w.heap.size, 6, none⟩) := h34 34 rfl
        replace h35 : f 35 = .int .i64 t := h35 35 rfl
        replace h36 : f 36 = .string tt := h36 36 rfl
        replace h37 : f 37 = .string x37 := h37 37 rfl
        replace h38 : f 38 = .string x38 := h38 38 rfl
        replace h39 : f 39 = .pointer (some ⟨w.heap.size, 7, none⟩) := h39 39 rfl
        replace h40 : f 40 = .string us := h40 40 rfl
        replace h41 : f 41 = .string tus := h41 41 rfl
        replace h42 : f 42 = .string x42 := h42 42 rfl
        replace h43 : f 43 = .string x43 := h43 43 rfl
        replace h44 : f 44 = .pointer (some ⟨w.heap.size, 8, none⟩) := h44 44 rfl
        replace h45 : f 45 = .string gr := h45 45 rfl
        replace h46 : f 46 = .string tgr := h46 46 rfl
        replace h47 : f 47 = .string x47 := h47 47 rfl
        replace h48 : f 48 = .string x48 := h48 48 rfl
        replace h49 : f 49 = .pointer (some ⟨w.heap.size, 9, none⟩) := h49 49 rfl
        replace h50 : f 50 = .string b := h50 50 rfl
        replace h51 : f 51 = .int .i64 (b.size : Int) := h51 51 rfl
        replace h52 : f 52 = .string tb := h52 52 rfl
        replace h53 : f 53 = .string x53 := h53 53 rfl
        replace h54 : f 54 = .string x54 := h54 54 rfl
        replace h55 : f 55 = .pointer (some ⟨w.heap.size, 1, none⟩) := h55 55 rfl
        replace h56 : f 56 = .string p := h56 56 rfl
        replace h57 : f 57 = .string x57 := h57 57 rfl
        replace h5 : f 5 = .string x57 := h5 5 rfl
        simp only [putAll, Act.put, List.setIfInBounds_toArray, List.set_cons_succ, List.set_cons_zero, h16, h17, h19, h20, h21, h22, h23, h24, h25, h26, h27, h28, h29, h30, h31, h32, h33, h34, h35, h36, h37, h38, h39, h40, h41, h42, h43, h44, h45, h46, h47, h48, h49, h50, h51, h52, h53, h54, h55, h56, h57, h5]
        generalize f 15 = v15
        generalize f 18 = v18
        clear h16 h17 h19 h20 h21 h22 h23 h24 h25 h26 h27 h28 h29 h30 h31 h32 h33 h34 h35 h36 h37 h38 h39 h40 h41 h42 h43 h44 h45 h46 h47 h48 h49 h50 h51 h52 h53 h54 h55 h56 h57 h5
        obtain ⟨c0, c1, c2, c3, c4, c5, c6, c7, c8, c9⟩ := E2.out.zero
        clear c0 c1 c3 c4 c5 c6 c7 c8 c9
        by_cases hl0 : l.size = 0
        · have q := empty_t hl0
          have HF := Lib.hid (HZ.out hl0)
          clear hl0 HZ HL
          go_wp2_with fail
          go_ret
          exact ⟨ret_str HF.out.symm, B2.out⟩
        · have q := empty_f hl0
          have HF := Lib.hid (HL.out hl0)
          clear hl0 HZ HL
          go_wp2_with fail
          go_ret
          exact ⟨ret_str HF.out.symm, B2.out⟩
    · obtain ⟨kc, hkc⟩ : ∃ kc : ByteArray, kc = ⟨#[100]⟩ := ⟨_, rfl⟩
      have HK : Hid (kindCh 1 = kc) := Lib.hid (by rw [hkc]; rfl)
      have zk : kc.size ≤ 1 := by rw [hkc]; decide
      rw [HK.out] at HZ HL
      obtain ⟨x20, hx20⟩ : ∃ x : ByteArray, x = kc ++ ⟨#[32]⟩ := ⟨_, rfl⟩
      obtain ⟨x22, hx22⟩ : ∃ x : ByteArray, x = x20 ++ tm := ⟨_, rfl⟩
      obtain ⟨x23, hx23⟩ : ∃ x : ByteArray, x = x22 ++ ⟨#[32]⟩ := ⟨_, rfl⟩
      obtain ⟨x27, hx27⟩ : ∃ x : ByteArray, x = x23 ++ tu := ⟨_, rfl⟩
      obtain ⟨x28, hx28⟩ : ∃ x : ByteArray, x = x27 ++ ⟨#[32]⟩ := ⟨_, rfl⟩
      obtain ⟨x32, hx32⟩ : ∃ x : ByteArray, x = x28 ++ tg := ⟨_, rfl⟩
      obtain ⟨x33, hx33⟩ : ∃ x : ByteArray, x = x32 ++ ⟨#[32]⟩ := ⟨_, rfl⟩
      obtain ⟨x37, hx37⟩ : ∃ x : ByteArray, x = x33 ++ tt := ⟨_, rfl⟩
      obtain ⟨x38, hx38⟩ : ∃ x : ByteArray, x = x37 ++ ⟨#[32]⟩ := ⟨_, rfl⟩
      obtain ⟨x42, hx42⟩ : ∃ x : ByteArray, x = x38 ++ tus := ⟨_, rfl⟩
      obtain ⟨x43, hx43⟩ : ∃ x : ByteArray, x = x42 ++ ⟨#[32]⟩ := ⟨_, rfl⟩
      obtain ⟨x47, hx47⟩ : ∃ x : ByteArray, x = x43 ++ tgr := ⟨_, rfl⟩
      obtain ⟨x48, hx48⟩ : ∃ x : ByteArray, x = x47 ++ ⟨#[32]⟩ := ⟨_, rfl⟩
      obtain ⟨x53, hx53⟩ : ∃ x : ByteArray, x = x48 ++ tb := ⟨_, rfl⟩
      obtain ⟨x54, hx54⟩ : ∃ x : ByteArray, x = x53 ++ ⟨#[32]⟩ := ⟨_, rfl⟩
      obtain ⟨x57, hx57⟩ : ∃ x : ByteArray, x = x54 ++ p := ⟨_, rfl⟩
      have zsp : (⟨#[32]⟩ : ByteArray).size = 1 := rfl
      have zx20 : x20.size ≤ 2 := by rw [hx20, ByteArray.size_append]; omega
      have zx22 : x22.size ≤ 6 := by rw [hx22, ByteArray.size_append]; omega
      have zx23 : x23.size ≤ 7 := by rw [hx23, ByteArray.size_append]; omega
      have zx27 : x27.size ≤ 19 := by rw [hx27, ByteArray.size_append]; omega
      have zx28 : x28.size ≤ 20 := by rw [hx28, ByteArray.size_append]; omega
      have zx32 : x32.size ≤ 32 := by rw [hx32, ByteArray.size_append]; omega
      have zx33 : x33.size ≤ 33 := by rw [hx33, ByteArray.size_append]; omega
      have zx37 : x37.size ≤ 45 := by rw [hx37, ByteArray.size_append]; omega
      have zx38 : x38.size ≤ 46 := by rw [hx38, ByteArray.size_append]; omega
      have zx42 : x42.size ≤ 66 := by rw [hx42, ByteArray.size_append]; omega
      have zx43 : x43.size ≤ 67 := by rw [hx43, ByteArray.size_append]; omega
      have zx47 : x47.size ≤ 87 := by rw [hx47, ByteArray.size_append]; omega
      have zx48 : x48.size ≤ 88 := by rw [hx48, ByteArray.size_append]; omega
      have zx53 : x53.size ≤ 100 := by rw [hx53, ByteArray.size_append]; omega
      have zx54 : x54.size ≤ 101 := by rw [hx54, ByteArray.size_append]; omega
      have zx57 : x57.size ≤ 301 := by rw [hx57, ByteArray.size_append]; omega
      have HX : Hid (x57 = nineS kc tm tu tg tt tus tgr tb p) := Lib.hid (by subst hx57 hx54 hx53 hx48 hx47 hx43 hx42 hx38 hx37 hx33 hx32 hx28 hx27 hx23 hx22 hx20; rfl)
      have HA20 : Hid (∀ w, (Op.stringOp .add kc ⟨#[32]⟩).run Tryd.prog w = .ok (.string x20) w) := Lib.hid (fun w => by rw [hx20]; exact run_string_add_sum w _ _ (by omega))
      have HA22 : Hid (∀ w, (Op.stringOp .add x20 tm).run Tryd.prog w = .ok (.string x22) w) := Lib.hid (fun w => by rw [hx22]; exact run_string_add_sum w _ _ (by omega))
      have HA23 : Hid (∀ w, (Op.stringOp .add x22 ⟨#[32]⟩).run Tryd.prog w = .ok (.string x23) w) := Lib.hid (fun w => by rw [hx23]; exact run_string_add_sum w _ _ (by omega))
      have HA27 : Hid (∀ w, (Op.stringOp .add x23 tu).run Tryd.prog w = .ok (.string x27) w) := Lib.hid (fun w => by rw [hx27]; exact run_string_add_sum w _ _ (by omega))
      have HA28 : Hid (∀ w, (Op.stringOp .add x27 ⟨#[32]⟩).run Tryd.prog w = .ok (.string x28) w) := Lib.hid (fun w => by rw [hx28]; exact run_string_add_sum w _ _ (by omega))
      have HA32 : Hid (∀ w, (Op.stringOp .add x28 tg).run Tryd.prog w = .ok (.string x32) w) := Lib.hid (fun w => by rw [hx32]; exact run_string_add_sum w _ _ (by omega))
      have HA33 : Hid (∀ w, (Op.stringOp .add x32 ⟨#[32]⟩).run Tryd.prog w = .ok (.string x33) w) := Lib.hid (fun w => by rw [hx33]; exact run_string_add_sum w _ _ (by omega))
      have HA37 : Hid (∀ w, (Op.stringOp .add x33 tt).run Tryd.prog w = .ok (.string x37) w) := Lib.hid (fun w => by rw [hx37]; exact run_string_add_sum w _ _ (by omega))
      have HA38 : Hid (∀ w, (Op.stringOp .add x37 ⟨#[32]⟩).run Tryd.prog w = .ok (.string x38) w) := Lib.hid (fun w => by rw [hx38]; exact run_string_add_sum w _ _ (by omega))
      have HA42 : Hid (∀ w, (Op.stringOp .add x38 tus).run Tryd.prog w = .ok (.string x42) w) := Lib.hid (fun w => by rw [hx42]; exact run_string_add_sum w _ _ (by omega))
      have HA43 : Hid (∀ w, (Op.stringOp .add x42 ⟨#[32]⟩).run Tryd.prog w = .ok (.string x43) w) := Lib.hid (fun w => by rw [hx43]; exact run_string_add_sum w _ _ (by omega))
      have HA47 : Hid (∀ w, (Op.stringOp .add x43 tgr).run Tryd.prog w = .ok (.string x47) w) := Lib.hid (fun w => by rw [hx47]; exact run_string_add_sum w _ _ (by omega))
      have HA48 : Hid (∀ w, (Op.stringOp .add x47 ⟨#[32]⟩).run Tryd.prog w = .ok (.string x48) w) := Lib.hid (fun w => by rw [hx48]; exact run_string_add_sum w _ _ (by omega))
      have HA53 : Hid (∀ w, (Op.stringOp .add x48 tb).run Tryd.prog w = .ok (.string x53) w) := Lib.hid (fun w => by rw [hx53]; exact run_string_add_sum w _ _ (by omega))
      have HA54 : Hid (∀ w, (Op.stringOp .add x53 ⟨#[32]⟩).run Tryd.prog w = .ok (.string x54) w) := Lib.hid (fun w => by rw [hx54]; exact run_string_add_sum w _ _ (by omega))
      have HA57 : Hid (∀ w, (Op.stringOp .add x54 p).run Tryd.prog w = .ok (.string x57) w) := Lib.hid (fun w => by rw [hx57]; exact run_string_add_sum w _ _ (by omega))
      rw [← HX.out] at HZ HL
      clear hx57 hx54 hx53 hx48 hx47 hx43 hx42 hx38 hx37 hx33 hx32 hx28 hx27 hx23 hx22 hx20 HX
      have HKC := Lib.hid hkc
      clear hkc
      go_enter Tryd.func6, Tryd.ntmps6
      go_wp2_with fail
      refine (HO.out _).mono ?_
      rintro e w1 ⟨rfl, hb⟩
      obtain ⟨k1, bb, zb⟩ := one_new (e1 := ⟨_, p, l, m, u, g, t, us, gr, b⟩) hb
      have E1 := Lib.hid k1
      have B1 := Lib.hid bb
      clear hb k1 bb HO
      obtain ⟨c0, c1, c2, c3, c4, c5, c6, c7, c8, c9⟩ := E1.out.zero
      go_wp2_with (go_at_call 15; refine (HM.out _).mono ?_; rintro e _ ⟨rfl, rfl⟩)
      have KC : Hid (∀ w', Below w1.heap.size w1 w' → w'.cell? ⟨w.heap.size, 0, none⟩ = some (.int .i64 1) ∧ w'.cell? ⟨w.heap.size, 1, none⟩ = some (.string p) ∧ w'.cell? ⟨w.heap.size, 4, none⟩ = some (.int .i64 u) ∧ w'.cell? ⟨w.heap.size, 5, none⟩ = some (.int .i64 g) ∧ w'.cell? ⟨w.heap.size, 6, none⟩ = some (.int .i64 t) ∧ w'.cell? ⟨w.heap.size, 7, none⟩ = some (.string us) ∧ w'.cell? ⟨w.heap.size, 8, none⟩ = some (.string gr) ∧ w'.cell? ⟨w.heap.size, 9, none⟩ = some (.string b)) := Lib.hid (fun w' hb => ⟨(hb.cell (p := ⟨w.heap.size, 0, none⟩) zb).trans c0, (hb.cell (p := ⟨w.heap.size, 1, none⟩) zb).trans c1, (hb.cell (p := ⟨w.heap.size, 4, none⟩) zb).trans c4, (hb.cell (p := ⟨w.heap.size, 5, none⟩) zb).trans c5, (hb.cell (p := ⟨w.heap.size, 6, none⟩) zb).trans c6, (hb.cell (p := ⟨w.heap.size, 7, none⟩) zb).trans c7, (hb.cell (p := ⟨w.heap.size, 8, none⟩) zb).trans c8, (hb.cell (p := ⟨w.heap.size, 9, none⟩) zb).trans c9⟩)
      clear c0 c1 c2 c3 c4 c5 c6 c7 c8 c9
      refine wp_region_inv (by kernel_rfl) (fun w' => Below w1.heap.size w1 w') (fun x y => Below x.heap.size x y) (textV w.heap.size 1 1 kc p tm u g t us gr b tu tg tt tus tgr tb x20 x22 x23 x27 x28 x32 x33 x37 x38 x42 x43 x47 x48 x53 x54 x57) (by kernel_rfl) (kd0 w1) (textV_keep _ _ _ _ _ _ _ _ _ _ _ _ _ _ _ _ _ _ _ _ _ _ _ _ _ _ _ _ _ _ _ _ _ _) ?hops ?hend
      case hops =>
        simp only [List.forall_mem_cons]
        refine ⟨?o15, ?o16, ?o17, ?o18, ?o19, ?o20, ?o21, ?o22, ?o23, ?o24, ?o25, ?o26, ?o27, ?o28, ?o29, ?o30, ?o31, ?o32, ?o33, ?o34, ?o35, ?o36, ?o37, ?o38, ?o39, ?o40, ?o41, ?o42, ?o43, ?o44, ?o45, ?o46, ?o47, ?o48, ?o49, ?o50, ?o51, ?o52, ?o53, ?o54, ?o55, ?o56, ?o57, ?o5, fun _ h => by cases h⟩
        case o15 =>
          intro Q a w2 hC hV hI
          refine op_val (.slice (some ⟨w2.heap.size, 0, none⟩) 4 4) (w' := w2.alloc (.cells #[.string ⟨#[102]⟩, .string ⟨#[100]⟩, .string ⟨#[108]⟩, .string ⟨#[104]⟩] 9)) ?_ (hC.alloc hC.size _) ((Below.refl _ _).alloc (Nat.le_refl _) _) ?_
          · (clear hV hI hC; go_simp <;> (first | rfl | simp))
          · intro d hd; cases hd; exact ⟨w2.heap.size, rfl, by rw [HKC.out]; simp⟩
        case o16 =>
          intro Q a w2 hC hV hI
          have e1 : a.eval (.tmp 1) = .pointer (some ⟨w.heap.size, 0, none⟩) := (hI 1 (by simp [Op.operands]) (by kernel_rfl)).trans rfl
          have f1 : a.tmps.getD 1 undef = .pointer (some ⟨w.heap.size, 0, none⟩) := e1
          have g1 : a.tmps[1]?.getD undef = .pointer (some ⟨w.heap.size, 0, none⟩) := by rw [← Array.getD_eq_getD_getElem?]; exact e1
          refine op_val (.pointer (some ⟨w.heap.size, 0, none⟩)) ?_ hC (Below.refl _ _) (by intro d hd; cases hd; rfl)
          (clear hV hI hC; go_simp <;> (first | rfl | simp))
        case o17 =>
          intro Q a w2 hC hV hI
          have e16 : a.eval (.tmp 16) = .pointer (some ⟨w.heap.size, 0, none⟩) := hV 16 (by simp [Op.operands]) (by kernel_rfl)
          have f16 : a.tmps.getD 16 undef = .pointer (some ⟨w.heap.size, 0, none⟩) := e16
          have g16 : a.tmps[16]?.getD undef = .pointer (some ⟨w.heap.size, 0, none⟩) := by rw [← Array.getD_eq_getD_getElem?]; exact e16
          obtain ⟨d0, d1, d4, d5, d6, d7, d8, d9⟩ := KC.out w2 hC
          refine op_val (.int .i64 1) ?_ hC (Below.refl _ _) (by intro d hd; cases hd; rfl)
          (clear hV hI hC; go_simp <;> (first | rfl | simp))
        case o18 =>
          intro Q a w2 hC hV hI
          obtain ⟨G, e15, hc⟩ : ∃ G, a.eval (.tmp 15) = .slice (some ⟨G, 0, none⟩) 4 4 ∧ w2.cell? ⟨G, 1, none⟩ = some (.string kc) := hV 15 (by simp [Op.operands]) (by kernel_rfl)
          have g15 : a.tmps[15]?.getD undef = .slice (some ⟨G, 0, none⟩) 4 4 := by rw [← Array.getD_eq_getD_getElem?]; exact e15
          have e17 : a.eval (.tmp 17) = .int .i64 1 := hV 17 (by simp [Op.operands]) (by kernel_rfl)
          have f17 : a.tmps.getD 17 undef = .int .i64 1 := e17
          have g17 : a.tmps[17]?.getD undef = .int .i64 1 := by rw [← Array.getD_eq_getD_getElem?]; exact e17
          refine op_val (.pointer (some ⟨G, 1, none⟩)) ?_ hC (Below.refl _ _) ?_
          · (clear hV hI hC; go_simp <;> (first | rfl | simp))
          · intro d hd; cases hd; exact ⟨_, rfl, hc⟩
        case o19 =>
          intro Q a w2 hC hV hI
          obtain ⟨A, e18, hc⟩ : ∃ A, a.eval (.tmp 18) = .pointer (some A) ∧ w2.cell? A = some (.string kc) := hV 18 (by simp [Op.operands]) (by kernel_rfl)
          have g18 : a.tmps[18]?.getD undef = .pointer (some A) := by rw [← Array.getD_eq_getD_getElem?]; exact e18
          refine op_val (.string kc) ?_ hC (Below.refl _ _) (by intro d hd; cases hd; rfl)
          (clear hV hI hC; go_simp <;> (first | rfl | simp))
        case o20 =>
          intro Q a w2 hC hV hI
          have e19 : a.eval (.tmp 19) = .string kc := hV 19 (by simp [Op.operands]) (by kernel_rfl)
          have f19 : a.tmps.getD 19 undef = .string kc := e19
          have g19 : a.tmps[19]?.getD undef = .string kc := by rw [← Array.getD_eq_getD_getElem?]; exact e19
          refine op_val (.string x20) ?_ hC (Below.refl _ _) (by intro d hd; cases hd; rfl)
          have q := HA20.out w2
          (clear hV hI hC; go_simp <;> (first | rfl | simp))
        case o21 =>
          intro Q a w2 hC hV hI
          have e3 : a.eval (.tmp 3) = .string tm := (hI 3 (by simp [Op.operands]) (by kernel_rfl)).trans rfl
          have f3 : a.tmps.getD 3 undef = .string tm := e3
          have g3 : a.tmps[3]?.getD undef = .string tm := by rw [← Array.getD_eq_getD_getElem?]; exact e3
          refine op_val (.string tm) ?_ hC (Below.refl _ _) (by intro d hd; cases hd; rfl)
          (clear hV hI hC; go_simp <;> (first | rfl | simp))
        case o22 =>
          intro Q a w2 hC hV hI
          have e20 : a.eval (.tmp 20) = .string x20 := hV 20 (by simp [Op.operands]) (by kernel_rfl)
          have f20 : a.tmps.getD 20 undef = .string x20 := e20
          have g20 : a.tmps[20]?.getD undef = .string x20 := by rw [← Array.getD_eq_getD_getElem?]; exact e20
          have e21 : a.eval (.tmp 21) = .string tm := hV 21 (by simp [Op.operands]) (by kernel_rfl)
          have f21 : a.tmps.getD 21 undef = .string tm := e21
          have g21 : a.tmps[21]?.getD undef = .string tm := by rw [← Array.getD_eq_getD_getElem?]; exact e21
          refine op_val (.string x22) ?_ hC (Below.refl _ _) (by intro d hd; cases hd; rfl)
          have q := HA22.out w2
          (clear hV hI hC; go_simp <;> (first | rfl | simp))
        case o23 =>
          intro Q a w2 hC hV hI
          have e22 : a.eval (.tmp 22) = .string x22 := hV 22 (by simp [Op.operands]) (by kernel_rfl)
          have f22 : a.tmps.getD 22 undef = .string x22 := e22
          have g22 : a.tmps[22]?.getD undef = .string x22 := by rw [← Array.getD_eq_getD_getElem?]; exact e22
          refine op_val (.string x23) ?_ hC (Below.refl _ _) (by intro d hd; cases hd; rfl)
          have q := HA23.out w2
          (clear hV hI hC; go_simp <;> (first | rfl | simp))
        case o24 =>
          intro Q a w2 hC hV hI
          have e1 : a.eval (.tmp 1) = .pointer (some ⟨w.heap.size, 0, none⟩) := (hI 1 (by simp [Op.operands]) (by kernel_rfl)).trans rfl
          have f1 : a.tmps.getD 1 undef = .pointer (some ⟨w.heap.size, 0, none⟩) := e1
          have g1 : a.tmps[1]?.getD undef = .pointer (some ⟨w.heap.size, 0, none⟩) := by rw [← Array.getD_eq_getD_getElem?]; exact e1
          refine op_val (.pointer (some ⟨w.heap.size, 4, none⟩)) ?_ hC (Below.refl _ _) (by intro d hd; cases hd; rfl)
          (clear hV hI hC; go_simp <;> (first | rfl | simp))
        case o25 =>
          intro Q a w2 hC hV hI
          have e24 : a.eval (.tmp 24) = .pointer (some ⟨w.heap.size, 4, none⟩) := hV 24 (by simp [Op.operands]) (by kernel_rfl)
          have f24 : a.tmps.getD 24 undef = .pointer (some ⟨w.heap.size, 4, none⟩) := e24
          have g24 : a.tmps[24]?.getD undef = .pointer (some ⟨w.heap.size, 4, none⟩) := by rw [← Array.getD_eq_getD_getElem?]; exact e24
          obtain ⟨d0, d1, d4, d5, d6, d7, d8, d9⟩ := KC.out w2 hC
          refine op_val (.int .i64 u) ?_ hC (Below.refl _ _) (by intro d hd; cases hd; rfl)
          (clear hV hI hC; go_simp <;> (first | rfl | simp))
        case o26 =>
          intro Q a w2 hC hV hI
          have e25 : a.eval (.tmp 25) = .int .i64 u := hV 25 (by simp [Op.operands, Call.operands]) (by kernel_rfl)
          have f25 : a.tmps.getD 25 undef = .int .i64 u := e25
          have g25 : a.tmps[25]?.getD undef = .int .i64 u := by rw [← Array.getD_eq_getD_getElem?]; exact e25
          refine op_call (f := 16) (args := #[.int .i64 u]) (R := fun v y => v = .string tu ∧ w2 = y) ?_ ((HU.out w2).mono ?_) ?_
          · (clear hV hI hC; go_simp <;> (first | rfl | simp))
          · rintro e y ⟨rfl, rfl⟩; exact ⟨_, rfl, rfl, rfl⟩
          · rintro v y ⟨rfl, rfl⟩; exact ⟨hC, Below.refl _ _, by intro d hd; cases hd; rfl⟩
        case o27 =>
          intro Q a w2 hC hV hI
          have e23 : a.eval (.tmp 23) = .string x23 := hV 23 (by simp [Op.operands]) (by kernel_rfl)
          have f23 : a.tmps.getD 23 undef = .string x23 := e23
          have g23 : a.tmps[23]?.getD undef = .string x23 := by rw [← Array.getD_eq_getD_getElem?]; exact e23
          have e26 : a.eval (.tmp 26) = .string tu := hV 26 (by simp [Op.operands]) (by kernel_rfl)
          have f26 : a.tmps.getD 26 undef = .string tu := e26
          have g26 : a.tmps[26]?.getD undef = .string tu := by rw [← Array.getD_eq_getD_getElem?]; exact e26
          refine op_val (.string x27) ?_ hC (Below.refl _ _) (by intro d hd; cases hd; rfl)
          have q := HA27.out w2
          (clear hV hI hC; go_simp <;> (first | rfl | simp))
        case o28 =>
          intro Q a w2 hC hV hI
          have e27 : a.eval (.tmp 27) = .string x27 := hV 27 (by simp [Op.operands]) (by kernel_rfl)
          have f27 : a.tmps.getD 27 undef = .string x27 := e27
          have g27 : a.tmps[27]?.getD undef = .string x27 := by rw [← Array.getD_eq_getD_getElem?]; exact e27
          refine op_val (.string x28) ?_ hC (Below.refl _ _) (by intro d hd; cases hd; rfl)
          have q := HA28.out w2
          (clear hV hI hC; go_simp <;> (first | rfl | simp))
        case o29 =>
          intro Q a w2 hC hV hI
          have e1 : a.eval (.tmp 1) = .pointer (some ⟨w.heap.size, 0, none⟩) := (hI 1 (by simp [Op.operands]) (by kernel_rfl)).trans rfl
          have f1 : a.tmps.getD 1 undef = .pointer (some ⟨w.heap.size, 0, none⟩) := e1
          have g1 : a.tmps[1]?.getD undef = .pointer (some ⟨w.heap.size, 0, none⟩) := by rw [← Array.getD_eq_getD_getElem?]; exact e1
          refine op_val (.pointer (some ⟨w.heap.size, 5, none⟩)) ?_ hC (Below.refl _ _) (by intro d hd; cases hd; rfl)
          (clear hV hI hC; go_simp <;> (first | rfl | simp))
        case o30 =>
          intro Q a w2 hC hV hI
          have e29 : a.eval (.tmp 29) = .pointer (some ⟨w.heap.size, 5, none⟩) := hV 29 (by simp [Op.operands]) (by kernel_rfl)
          have f29 : a.tmps.getD 29 undef = .pointer (some ⟨w.heap.size, 5, none⟩) := e29
          have g29 : a.tmps[29]?.getD undef = .pointer (some ⟨w.heap.size, 5, none⟩) := by rw [← Array.getD_eq_getD_getElem?]; exact e29
          obtain ⟨d0, d1, d4, d5, d6, d7, d8, d9⟩ := KC.out w2 hC
          refine op_val (.int .i64 g) ?_ hC (Below.refl _ _) (by intro d hd; cases hd; rfl)
          (clear hV hI hC; go_simp <;> (first | rfl | simp))
        case o31 =>
          intro Q a w2 hC hV hI
          have e30 : a.eval (.tmp 30) = .int .i64 g := hV 30 (by simp [Op.operands, Call.operands]) (by kernel_rfl)
          have f30 : a.tmps.getD 30 undef = .int .i64 g := e30
          have g30 : a.tmps[30]?.getD undef = .int .i64 g := by rw [← Array.getD_eq_getD_getElem?]; exact e30
          refine op_call (f := 16) (args := #[.int .i64 g]) (R := fun v y => v = .string tg ∧ w2 = y) ?_ ((HGd.out w2).mono ?_) ?_
          · (clear hV hI hC; go_simp <;> (first | rfl | simp))
          · rintro e y ⟨rfl, rfl⟩; exact ⟨_, rfl, rfl, rfl⟩
          · rintro v y ⟨rfl, rfl⟩; exact ⟨hC, Below.refl _ _, by intro d hd; cases hd; rfl⟩
        case o32 =>
          intro Q a w2 hC hV hI
          have e28 : a.eval (.tmp 28) = .string x28 := hV 28 (by simp [Op.operands]) (by kernel_rfl)
          have f28 : a.tmps.getD 28 undef = .string x28 := e28
          have g28 : a.tmps[28]?.getD undef = .string x28 := by rw [← Array.getD_eq_getD_getElem?]; exact e28
          have e31 : a.eval (.tmp 31) = .string tg := hV 31 (by simp [Op.operands]) (by kernel_rfl)
          have f31 : a.tmps.getD 31 undef = .string tg := e31
          have g31 : a.tmps[31]?.getD undef = .string tg := by rw [← Array.getD_eq_getD_getElem?]; exact e31
          refine op_val (.string x32) ?_ hC (Below.refl _ _) (by intro d hd; cases hd; rfl)
          have q := HA32.out w2
          (clear hV hI hC; go_simp <;> (first | rfl | simp))
        case o33 =>
          intro Q a w2 hC hV hI
          have e32 : a.eval (.tmp 32) = .string x32 := hV 32 (by simp [Op.operands]) (by kernel_rfl)
          have f32 : a.tmps.getD 32 undef = .string x32 := e32
          have g32 : a.tmps[32]?.getD undef = .string x32 := by rw [← Array.getD_eq_getD_getElem?]; exact e32
          refine op_val (.string x33) ?_ hC (Below.refl _ _) (by intro d hd; cases hd; rfl)
          have q := HA33.out w2
          (clear hV hI hC; go_simp <;> (first | rfl | simp))
        case o34 =>
          intro Q a w2 hC hV hI
          have e1 : a.eval (.tmp 1) = .pointer (some ⟨w.heap.size, 0, none⟩) := (hI 1 (by simp [Op.operands]) (by kernel_rfl)).trans rfl
          have f1 : a.tmps.getD 1 undef = .pointer (some ⟨w.heap.size, 0, none⟩) := e1
          have g1 : a.tmps[1]?.getD undef = .pointer (some ⟨w.heap.size, 0, none⟩) := by rw [← Array.getD_eq_getD_getElem?]; exact e1
          refine op_val (.pointer (some ⟨w.heap.size, 6, none⟩)) ?_ hC (Below.refl _ _) (by intro d hd; cases hd; rfl)
          (clear hV hI hC; go_simp <;> (first | rfl | simp))
        case o35 =>
          intro Q a w2 hC hV hI
          have e34 : a.eval (.tmp 34) = .pointer (some ⟨w.heap.size, 6, none⟩) := hV 34 (by simp [Op.operands]) (by kernel_rfl)
          have f34 : a.tmps.getD 34 undef = .pointer (some ⟨w.heap.size, 6, none⟩) := e34
          have g34 : a.tmps[34]?.getD undef = .pointer (some ⟨w.heap.size, 6, none⟩) := by rw [← Array.getD_eq_getD_getElem?]; exact e34
          obtain ⟨d0, d1, d4, d5, d6, d7, d8, d9⟩ := KC.out w2 hC
          refine op_val (.int .i64 t) ?_ hC (Below.refl _ _) (by intro d hd; cases hd; rfl)
          (clear hV hI hC; go_simp <;> (first | rfl | simp))
        case o36 =>
          intro Q a w2 hC hV hI
          have e35 : a.eval (.tmp 35) = .int .i64 t := hV 35 (by simp [Op.operands, Call.operands]) (by kernel_rfl)
          have f35 : a.tmps.getD 35 undef = .int .i64 t := e35
          have g35 : a.tmps[35]?.getD undef = .int .i64 t := by rw [← Array.getD_eq_getD_getElem?]; exact e35
          refine op_call (f := 16) (args := #[.int .i64 t]) (R := fun v y => v = .string tt ∧ w2 = y) ?_ ((HT.out w2).mono ?_) ?_
          · (clear hV hI hC; go_simp <;> (first | rfl | simp))
          · rintro e y ⟨rfl, rfl⟩; exact ⟨_, rfl, rfl, rfl⟩
          · rintro v y ⟨rfl, rfl⟩; exact ⟨hC, Below.refl _ _, by intro d hd; cases hd; rfl⟩
        case o37 =>
          intro Q a w2 hC hV hI
          have e33 : a.eval (.tmp 33) = .string x33 := hV 33 (by simp [Op.operands]) (by kernel_rfl)
          have f33 : a.tmps.getD 33 undef = .string x33 := e33
          have g33 : a.tmps[33]?.getD undef = .string x33 := by rw [← Array.getD_eq_getD_getElem?]; exact e33
          have e36 : a.eval (.tmp 36) = .string tt := hV 36 (by simp [Op.operands]) (by kernel_rfl)
          have f36 : a.tmps.getD 36 undef = .string tt := e36
          have g36 : a.tmps[36]?.getD undef = .string tt := by rw [← Array.getD_eq_getD_getElem?]; exact e36
          refine op_val (.string x37) ?_ hC (Below.refl _ _) (by intro d hd; cases hd; rfl)
          have q := HA37.out w2
          (clear hV hI hC; go_simp <;> (first | rfl | simp))
        case o38 =>
          intro Q a w2 hC hV hI
          have e37 : a.eval (.tmp 37) = .string x37 := hV 37 (by simp [Op.operands]) (by kernel_rfl)
          have f37 : a.tmps.getD 37 undef = .string x37 := e37
          have g37 : a.tmps[37]?.getD undef = .string x37 := by rw [← Array.getD_eq_getD_getElem?]; exact e37
          refine op_val (.string x38) ?_ hC (Below.refl _ _) (by intro d hd; cases hd; rfl)
          have q := HA38.out w2
          (clear hV hI hC; go_simp <;> (first | rfl | simp))
        case o39 =>
          intro Q a w2 hC hV hI
          have e1 : a.eval (.tmp 1) = .pointer (some ⟨w.heap.size, 0, none⟩) := (hI 1 (by simp [Op.operands]) (by kernel_rfl)).trans rfl
          have f1 : a.tmps.getD 1 undef = .pointer (some ⟨w.heap.size, 0, none⟩) := e1
          have g1 : a.tmps[1]?.getD undef = .pointer (some ⟨w.heap.size, 0, none⟩) := by rw [← Array.getD_eq_getD_getElem?]; exact e1
          refine op_val (.pointer (some ⟨w.heap.size, 7, none⟩)) ?_ hC (Below.refl _ _) (by intro d hd; cases hd; rfl)
          (clear hV hI hC; go_simp <;> (first | rfl | simp))
        case o40 =>
          intro Q a w2 hC hV hI
          have e39 : a.eval (.tmp 39) = .pointer (some ⟨w.heap.size, 7, none⟩) := hV 39 (by simp [Op.operands]) (by kernel_rfl)
          have f39 : a.tmps.getD 39 undef = .pointer (some ⟨w.heap.size, 7, none⟩) := e39
          have g39 : a.tmps[39]?.getD undef = .pointer (some ⟨w.heap.size, 7, none⟩) := by rw [← Array.getD_eq_getD_getElem?]; exact e39
          obtain ⟨d0, d1, d4, d5, d6, d7, d8, d9⟩ := KC.out w2 hC
          refine op_val (.string us) ?_ hC (Below.refl _ _) (by intro d hd; cases hd; rfl)
          (clear hV hI hC; go_simp <;> (first | rfl | simp))
        case o41 =>
          intro Q a w2 hC hV hI
          have e40 : a.eval (.tmp 40) = .string us := hV 40 (by simp [Op.operands, Call.operands]) (by kernel_rfl)
          have f40 : a.tmps.getD 40 undef = .string us := e40
          have g40 : a.tmps[40]?.getD undef = .string us := by rw [← Array.getD_eq_getD_getElem?]; exact e40
          refine op_call (f := 17) (args := #[.string us]) (R := fun v y => v = .string tus ∧ w2 = y) ?_ ((HUs.out w2).mono ?_) ?_
          · (clear hV hI hC; go_simp <;> (first | rfl | simp))
          · rintro e y ⟨rfl, rfl⟩; exact ⟨_, rfl, rfl, rfl⟩
          · rintro v y ⟨rfl, rfl⟩; exact ⟨hC, Below.refl _ _, by intro d hd; cases hd; rfl⟩
        case o42 =>
          intro Q a w2 hC hV hI
          have e38 : a.eval (.tmp 38) = .string x38 := hV 38 (by simp [Op.operands]) (by kernel_rfl)
          have f38 : a.tmps.getD 38 undef = .string x38 := e38
          have g38 : a.tmps[38]?.getD undef = .string x38 := by rw [← Array.getD_eq_getD_getElem?]; exact e38
          have e41 : a.eval (.tmp 41) = .string tus := hV 41 (by simp [Op.operands]) (by kernel_rfl)
          have f41 : a.tmps.getD 41 undef = .string tus := e41
          have g41 : a.tmps[41]?.getD undef = .string tus := by rw [← Array.getD_eq_getD_getElem?]; exact e41
          refine op_val (.string x42) ?_ hC (Below.refl _ _) (by intro d hd; cases hd; rfl)
          have q := HA42.out w2
          (clear hV hI hC; go_simp <;> (first | rfl | simp))
        case o43 =>
          intro Q a w2 hC hV hI
          have e42 : a.eval (.tmp 42) = .string x42 := hV 42 (by simp [Op.operands]) (by kernel_rfl)
          have f42 : a.tmps.getD 42 undef = .string x42 := e42
          have g42 : a.tmps[42]?.getD undef = .string x42 := by rw [← Array.getD_eq_getD_getElem?]; exact e42
          refine op_val (.string x43) ?_ hC (Below.refl _ _) (by intro d hd; cases hd; rfl)
          have q := HA43.out w2
          (clear hV hI hC; go_simp <;> (first | rfl | simp))
        case o44 =>
          intro Q a w2 hC hV hI
          have e1 : a.eval (.tmp 1) = .pointer (some ⟨w.heap.size, 0, none⟩) := (hI 1 (by simp [Op.operands]) (by kernel_rfl)).trans rfl
          have f1 : a.tmps.getD 1 undef = .pointer (some ⟨w.heap.size, 0, none⟩) := e1
          have g1 : a.tmps[1]?.getD undef = .pointer (some ⟨w.heap.size, 0, none⟩) := by rw [← Array.getD_eq_getD_getElem?]; exact e1
          refine op_val (.pointer (some ⟨w.heap.size, 8, none⟩)) ?_ hC (Below.refl _ _) (by intro d hd; cases hd; rfl)
          (clear hV hI hC; go_simp <;> (first | rfl | simp))
        case o45 =>
          intro Q a w2 hC hV hI
          have e44 : a.eval (.tmp 44) = .pointer (some ⟨w.heap.size, 8, none⟩) := hV 44 (by simp [Op.operands]) (by kernel_rfl)
          have f44 : a.tmps.getD 44 undef = .pointer (some ⟨w.heap.size, 8, none⟩) := e44
          have g44 : a.tmps[44]?.getD undef = .pointer (some ⟨w.heap.size, 8, none⟩) := by rw [← Array.getD_eq_getD_getElem?]; exact e44
          obtain ⟨d0, d1, d4, d5, d6, d7, d8, d9⟩ := KC.out w2 hC
          refine op_val (.string gr) ?_ hC (Below.refl _ _) (by intro d hd; cases hd; rfl)
          (clear hV hI hC; go_simp <;> (first | rfl | simp))
        case o46 =>
          intro Q a w2 hC hV hI
          have e45 : a.eval (.tmp 45) = .string gr := hV 45 (by simp [Op.operands, Call.operands]) (by kernel_rfl)
          have f45 : a.tmps.getD 45 undef = .string gr := e45
          have g45 : a.tmps[45]?.getD undef = .string gr := by rw [← Array.getD_eq_getD_getElem?]; exact e45
          refine op_call (f := 17) (args := #[.string gr]) (R := fun v y => v = .string tgr ∧ w2 = y) ?_ ((HGr.out w2).mono ?_) ?_
          · (clear hV hI hC; go_simp <;> (first | rfl | simp))
          · rintro e y ⟨rfl, rfl⟩; exact ⟨_, rfl, rfl, rfl⟩
          · rintro v y ⟨rfl, rfl⟩; exact ⟨hC, Below.refl _ _, by intro d hd; cases hd; rfl⟩
        case o47 =>
          intro Q a w2 hC hV hI
          have e43 : a.eval (.tmp 43) = .string x43 := hV 43 (by simp [Op.operands]) (by kernel_rfl)
          have f43 : a.tmps.getD 43 undef = .string x43 := e43
          have g43 : a.tmps[43]?.getD undef = .string x43 := by rw [← Array.getD_eq_getD_getElem?]; exact e43
          have e46 : a.eval (.tmp 46) = .string tgr := hV 46 (by simp [Op.operands]) (by kernel_rfl)
          have f46 : a.tmps.getD 46 undef = .string tgr := e46
          have g46 : a.tmps[46]?.getD undef = .string tgr := by rw [← Array.getD_eq_getD_getElem?]; exact e46
          refine op_val (.string x47) ?_ hC (Below.refl _ _) (by intro d hd; cases hd; rfl)
          have q := HA47.out w2
          (clear hV hI hC; go_simp <;> (first | rfl | simp))
        case o48 =>
          intro Q a w2 hC hV hI
          have e47 : a.eval (.tmp 47) = .string x47 := hV 47 (by simp [Op.operands]) (by kernel_rfl)
          have f47 : a.tmps.getD 47 undef = .string x47 := e47
          have g47 : a.tmps[47]?.getD undef = .string x47 := by rw [← Array.getD_eq_getD_getElem?]; exact e47
          refine op_val (.string x48) ?_ hC (Below.refl _ _) (by intro d hd; cases hd; rfl)
          have q := HA48.out w2
          (clear hV hI hC; go_simp <;> (first | rfl | simp))
        case o49 =>
          intro Q a w2 hC hV hI
          have e1 : a.eval (.tmp 1) = .pointer (some ⟨w.heap.size, 0, none⟩) := (hI 1 (by simp [Op.operands]) (by kernel_rfl)).trans rfl
          have f1 : a.tmps.getD 1 undef = .pointer (some ⟨w.heap.size, 0, none⟩) := e1
          have g1 : a.tmps[1]?.getD undef = .pointer (some ⟨w.heap.size, 0, none⟩) := by rw [← Array.getD_eq_getD_getElem?]; exact e1
          refine op_val (.pointer (some ⟨w.heap.size, 9, none⟩)) ?_ hC (Below.refl _ _) (by intro d hd; cases hd; rfl)
          (clear hV hI hC; go_simp <;> (first | rfl | simp))
        case o50 =>
          intro Q a w2 hC hV hI
          have e49 : a.eval (.tmp 49) = .pointer (some ⟨w.heap.size, 9, none⟩) := hV 49 (by simp [Op.operands]) (by kernel_rfl)
          have f49 : a.tmps.getD 49 undef = .pointer (some ⟨w.heap.size, 9, none⟩) := e49
          have g49 : a.tmps[49]?.getD undef = .pointer (some ⟨w.heap.size, 9, none⟩) := by rw [← Array.getD_eq_getD_getElem?]; exact e49
          obtain ⟨d0, d1, d4, d5, d6, d7, d8, d9⟩ := KC.out w2 hC
          refine op_val (.string b) ?_ hC (Below.refl _ _) (by intro d hd; cases hd; rfl)
          (clear hV hI hC; go_simp <;> (first | rfl | simp))
        case o51 =>
          intro Q a w2 hC hV hI
          have e50 : a.eval (.tmp 50) = .string b := hV 50 (by simp [Op.operands, Call.operands]) (by kernel_rfl)
          have f50 : a.tmps.getD 50 undef = .string b := e50
          have g50 : a.tmps[50]?.getD undef = .string b := by rw [← Array.getD_eq_getD_getElem?]; exact e50
          refine op_val (.int .i64 (b.size : Int)) ?_ hC (Below.refl _ _) (by intro d hd; cases hd; rfl)
          (clear hV hI hC; go_simp <;> (first | rfl | simp))
        case o52 =>
          intro Q a w2 hC hV hI
          have e51 : a.eval (.tmp 51) = .int .i64 (b.size : Int) := hV 51 (by simp [Op.operands, Call.operands]) (by kernel_rfl)
          have f51 : a.tmps.getD 51 undef = .int .i64 (b.size : Int) := e51
          have g51 : a.tmps[51]?.getD undef = .int .i64 (b.size : Int) := by rw [← Array.getD_eq_getD_getElem?]; exact e51
          refine op_call (f := 16) (args := #[.int .i64 (b.size : Int)]) (R := fun v y => v = .string tb ∧ w2 = y) ?_ ((HBd.out w2).mono ?_) ?_
          · (clear hV hI hC; go_simp <;> (first | rfl | simp))
          · rintro e y ⟨rfl, rfl⟩; exact ⟨_, rfl, rfl, rfl⟩
          · rintro v y ⟨rfl, rfl⟩; exact ⟨hC, Below.refl _ _, by intro d hd; cases hd; rfl⟩
        case o53 =>
          intro Q a w2 hC hV hI
          have e48 : a.eval (.tmp 48) = .string x48 := hV 48 (by simp [Op.operands]) (by kernel_rfl)
          have f48 : a.tmps.getD 48 undef = .string x48 := e48
          have g48 : a.tmps[48]?.getD undef = .string x48 := by rw [← Array.getD_eq_getD_getElem?]; exact e48
          have e52 : a.eval (.tmp 52) = .string tb := hV 52 (by simp [Op.operands]) (by kernel_rfl)
          have f52 : a.tmps.getD 52 undef = .string tb := e52
          have g52 : a.tmps[52]?.getD undef = .string tb := by rw [← Array.getD_eq_getD_getElem?]; exact e52
          refine op_val (.string x53) ?_ hC (Below.refl _ _) (by intro d hd; cases hd; rfl)
          have q := HA53.out w2
          (clear hV hI hC; go_simp <;> (first | rfl | simp))
        case o54 =>
          intro Q a w2 hC hV hI
          have e53 : a.eval (.tmp 53) = .string x53 := hV 53 (by simp [Op.operands]) (by kernel_rfl)
          have f53 : a.tmps.getD 53 undef = .string x53 := e53
          have g53 : a.tmps[53]?.getD undef = .string x53 := by rw [← Array.getD_eq_getD_getElem?]; exact e53
          refine op_val (.string x54) ?_ hC (Below.refl _ _) (by intro d hd; cases hd; rfl)
          have q := HA54.out w2
          (clear hV hI hC; go_simp <;> (first | rfl | simp))
        case o55 =>
          intro Q a w2 hC hV hI
          have e1 : a.eval (.tmp 1) = .pointer (some ⟨w.heap.size, 0, none⟩) := (hI 1 (by simp [Op.operands]) (by kernel_rfl)).trans rfl
          have f1 : a.tmps.getD 1 undef = .pointer (some ⟨w.heap.size, 0, none⟩) := e1
          have g1 : a.tmps[1]?.getD undef = .pointer (some ⟨w.heap.size, 0, none⟩) := by rw [← Array.getD_eq_getD_getElem?]; exact e1
          refine op_val (.pointer (some ⟨w.heap.size, 1, none⟩)) ?_ hC (Below.refl _ _) (by intro d hd; cases hd; rfl)
          (clear hV hI hC; go_simp <;> (first | rfl | simp))
        case o56 =>
          intro Q a w2 hC hV hI
          have e55 : a.eval (.tmp 55) = .pointer (some ⟨w.heap.size, 1, none⟩) := hV 55 (by simp [Op.operands]) (by kernel_rfl)
          have f55 : a.tmps.getD 55 undef = .pointer (some ⟨w.heap.size, 1, none⟩) := e55
          have g55 : a.tmps[55]?.getD undef = .pointer (some ⟨w.heap.size, 1, none⟩) := by rw [← Array.getD_eq_getD_getElem?]; exact e55
          obtain ⟨d0, d1, d4, d5, d6, d7, d8, d9⟩ := KC.out w2 hC
          refine op_val (.string p) ?_ hC (Below.refl _ _) (by intro d hd; cases hd; rfl)
          (clear hV hI hC; go_simp <;> (first | rfl | simp))
        case o57 =>
          intro Q a w2 hC hV hI
          have e54 : a.eval (.tmp 54) = .string x54 := hV 54 (by simp [Op.operands]) (by kernel_rfl)
          have f54 : a.tmps.getD 54 undef = .string x54 := e54
          have g54 : a.tmps[54]?.getD undef = .string x54 := by rw [← Array.getD_eq_getD_getElem?]; exact e54
          have e56 : a.eval (.tmp 56) = .string p := hV 56 (by simp [Op.operands]) (by kernel_rfl)
          have f56 : a.tmps.getD 56 undef = .string p := e56
          have g56 : a.tmps[56]?.getD undef = .string p := by rw [← Array.getD_eq_getD_getElem?]; exact e56
          refine op_val (.string x57) ?_ hC (Below.refl _ _) (by intro d hd; cases hd; rfl)
          have q := HA57.out w2
          (clear hV hI hC; go_simp <;> (first | rfl | simp))
        case o5 =>
          intro Q a w2 hC hV hI
          have e57 : a.eval (.tmp 57) = .string x57 := hV 57 (by simp [Op.operands]) (by kernel_rfl)
          have f57 : a.tmps.getD 57 undef = .string x57 := e57
          have g57 : a.tmps[57]?.getD undef = .string x57 := by rw [← Array.getD_eq_getD_getElem?]; exact e57
          refine op_val (.string x57) ?_ hC (Below.refl _ _) (by intro d hd; cases hd; rfl)
          (clear hV hI hC; go_simp <;> (first | rfl | simp))
      case hend =>
        intro f w2 hC hall
        have E2 := Lib.hid (E1.out.below hC zb)
        have B2 := Lib.hid (btE B1.out hC)
        clear hC KC E1 B1 HA20 HA22 HA23 HA27 HA28 HA32 HA33 HA37 HA38 HA42 HA43 HA47 HA48 HA53 HA54 HA57
        simp only [List.forall_mem_cons] at hall
        obtain ⟨h15, h16, h17, h18, h19, h20, h21, h22, h23, h24, h25, h26, h27, h28, h29, h30, h31, h32, h33, h34, h35, h36, h37, h38, h39, h40, h41, h42, h43, h44, h45, h46, h47, h48, h49, h50, h51, h52, h53, h54, h55, h56, h57, h5, _⟩ := hall
        clear h15
        replace h16 : f 16 = .pointer (some ⟨w.heap.size, 0, none⟩) := h16 16 rfl
        replace h17 : f 17 = .int .i64 1 := h17 17 rfl
        clear h18
        replace h19 : f 19 = .string kc := h19 19 rfl
        replace h20 : f 20 = .string x20 := h20 20 rfl
        replace h21 : f 21 = .string tm := h21 21 rfl
        replace h22 : f 22 = .string x22 := h22 22 rfl
        replace h23 : f 23 = .string x23 := h23 23 rfl
        replace h24 : f 24 = .pointer (some ⟨w.heap.size, 4, none⟩) := h24 24 rfl
        replace h25 : f 25 = .int .i64 u := h25 25 rfl
        replace h26 : f 26 = .string tu := h26 26 rfl
        replace h27 : f 27 = .string x27 := h27 27 rfl
        replace h28 : f 28 = .string x28 := h28 28 rfl
        replace h29 : f 29 = .pointer (some ⟨w.heap.size, 5, none⟩) := h29 29 rfl
        replace h30 : f 30 = .int .i64 g := h30 30 rfl
        replace h31 : f 31 = .string tg := h31 31 rfl
        replace h32 : f 32 = .string x32 := h32 32 rfl
        replace h33 : f 33 = .string x33 := h33 33 rfl
        replace h34 : f 34 = .pointer (some ⟨w.heap.size, 6, none⟩) := h34 34 rfl
        replace h35 : f 35 = .int .i64 t := h35 35 rfl
        replace h36 : f 36 = .string tt := h36 36 rfl
        replace h37 : f 37 = .string x37 := h37 37 rfl
        replace h38 : f 38 = .string x38 := h38 38 rfl
        replace h39 : f 39 = .pointer (some ⟨w.heap.size, 7, none⟩) := h39 39 rfl
        replace h40 : f 40 = .string us := h40 40 rfl
        replace h41 : f 41 = .string tus := h41 41 rfl
        replace h42 : f 42 = .string x42 := h42 42 rfl
        replace h43 : f 43 = .string x43 := h43 43 rfl
        replace h44 : f 44 = .pointer (some ⟨w.heap.size, 8, none⟩) := h44 44 rfl
        replace h45 : f 45 = .string gr := h45 45 rfl
        replace h46 : f 46 = .string tgr := h46 46 rfl
        replace h47 : f 47 = .string x47 := h47 47 rfl
        replace h48 : f 48 = .string x48 := h48 48 rfl
        replace h49 : f 49 = .pointer (some ⟨w.heap.size, 9, none⟩) := h49 49 rfl
        replace h50 : f 50 = .string b := h50 50 rfl
        replace h51 : f 51 = .int .i64 (b.size : Int) := h51 51 rfl
        replace h52 : f 52 = .string tb := h52 52 rfl
        replace h53 : f 53 = .string x53 := h53 53 rfl
        replace h54 : f 54 = .string x54 := h54 54 rfl
        replace h55 : f 55 = .pointer (some ⟨w.heap.size, 1, none⟩) := h55 55 rfl
        replace h56 : f 56 = .string p := h56 56 rfl
        replace h57 : f 57 = .string x57 := h57 57 rfl
        replace h5 : f 5 = .string x57 := h5 5 rfl
        simp only [putAll, Act.put, List.setIfInBounds_toArray, List.set_cons_succ, List.set_cons_zero, h16, h17, h19, h20, h21, h22, h23, h24, h25, h26, h27, h28, h29, h30, h31, h32, h33, h34, h35, h36, h37, h38, h39, h40, h41, h42, h43, h44, h45, h46, h47, h48, h49, h50, h51, h52, h53, h54, h55, h56, h57, h5]
        generalize f 15 = v15
        generalize f 18 = v18
        clear h16 h17 h19 h20 h21 h22 h23 h24 h25 h26 h27 h28 h29 h30 h31 h32 h33 h34 h35 h36 h37 h38 h39 h40 h41 h42 h43 h44 h45 h46 h47 h48 h49 h50 h51 h52 h53 h54 h55 h56 h57 h5
        obtain ⟨c0, c1, c2, c3, c4, c5, c6, c7, c8, c9⟩ := E2.out.zero
        clear c0 c1 c3 c4 c5 c6 c7 c8 c9
        by_cases hl0 : l.size = 0
        · have q := empty_t hl0
          have HF := Lib.hid (HZ.out hl0)
          clear hl0 HZ HL
          go_wp2_with fail
          go_ret
          exact ⟨ret_str HF.out.symm, B2.out⟩
        · have q := empty_f hl0
          have HF := Lib.hid (HL.out hl0)
          clear hl0 HZ HL
          go_wp2_with fail
          go_ret
          exact ⟨ret_str HF.out.symm, B2.out⟩
    · obtain ⟨kc, hkc⟩ : ∃ kc : ByteArray, kc = ⟨#[108]⟩ := ⟨_, rfl⟩
      have HK : Hid (kindCh 2 = kc) := Lib.hid (by rw [hkc]; rfl)
      have zk : kc.size ≤ 1 := by rw [hkc]; decide
      rw [HK.out] at HZ HL
      obtain ⟨x20, hx20⟩ : ∃ x : ByteArray, x = kc ++ ⟨#[32]⟩ := ⟨_, rfl⟩
      obtain ⟨x22, hx22⟩ : ∃ x : ByteArray, x = x20 ++ tm := ⟨_, rfl⟩
      obtain ⟨x23, hx23⟩ : ∃ x : ByteArray, x = x22 ++ ⟨#[32]⟩ := ⟨_, rfl⟩
      obtain ⟨x27, hx27⟩ : ∃ x : ByteArray, x = x23 ++ tu := ⟨_, rfl⟩
      obtain ⟨x28, hx28⟩ : ∃ x : ByteArray, x = x27 ++ ⟨#[32]⟩ := ⟨_, rfl⟩
      obtain ⟨x32, hx32⟩ : ∃ x : ByteArray, x = x28 ++ tg := ⟨_, rfl⟩
      obtain ⟨x33, hx33⟩ : ∃ x : ByteArray, x = x32 ++ ⟨#[32]⟩ := ⟨_, rfl⟩
      obtain ⟨x37, hx37⟩ : ∃ x : ByteArray, x = x33 ++ tt := ⟨_, rfl⟩
      obtain ⟨x38, hx38⟩ : ∃ x : ByteArray, x = x37 ++ ⟨#[32]⟩ := ⟨_, rfl⟩
      obtain ⟨x42, hx42⟩ : ∃ x : ByteArray, x = x38 ++ tus := ⟨_, rfl⟩
      obtain ⟨x43, hx43⟩ : ∃ x : ByteArray, x = x42 ++ ⟨#[32]⟩ := ⟨_, rfl⟩
      obtain ⟨x47, hx47⟩ : ∃ x : ByteArray, x = x43 ++ tgr := ⟨_, rfl⟩
      obtain ⟨x48, hx48⟩ : ∃ x : ByteArray, x = x47 ++ ⟨#[32]⟩ := ⟨_, rfl⟩
      obtain ⟨x53, hx53⟩ : ∃ x : ByteArray, x = x48 ++ tb := ⟨_, rfl⟩
      obtain ⟨x54, hx54⟩ : ∃ x : ByteArray, x = x53 ++ ⟨#[32]⟩ := ⟨_, rfl⟩
      obtain ⟨x57, hx57⟩ : ∃ x : ByteArray, x = x54 ++ p := ⟨_, rfl⟩
      have zsp : (⟨#[32]⟩ : ByteArray).size = 1 := rfl
      have zx20 : x20.size ≤ 2 := by rw [hx20, ByteArray.size_append]; omega
      have zx22 : x22.size ≤ 6 := by rw [hx22, ByteArray.size_append]; omega
      have zx23 : x23.size ≤ 7 := by rw [hx23, ByteArray.size_append]; omega
      have zx27 : x27.size ≤ 19 := by rw [hx27, ByteArray.size_append]; omega
      have zx28 : x28.size ≤ 20 := by rw [hx28, ByteArray.size_append]; omega
      have zx32 : x32.size ≤ 32 := by rw [hx32, ByteArray.size_append]; omega
      have zx33 : x33.size ≤ 33 := by rw [hx33, ByteArray.size_append]; omega
      have zx37 : x37.size ≤ 45 := by rw [hx37, ByteArray.size_append]; omega
      have zx38 : x38.size ≤ 46 := by rw [hx38, ByteArray.size_append]; omega
      have zx42 : x42.size ≤ 66 := by rw [hx42, ByteArray.size_append]; omega
      have zx43 : x43.size ≤ 67 := by rw [hx43, ByteArray.size_append]; omega
      have zx47 : x47.size ≤ 87 := by rw [hx47, ByteArray.size_append]; omega
      have zx48 : x48.size ≤ 88 := by rw [hx48, ByteArray.size_append]; omega
      have zx53 : x53.size ≤ 100 := by rw [hx53, ByteArray.size_append]; omega
      have zx54 : x54.size ≤ 101 := by rw [hx54, ByteArray.size_append]; omega
      have zx57 : x57.size ≤ 301 := by rw [hx57, ByteArray.size_append]; omega
      have HX : Hid (x57 = nineS kc tm tu tg tt tus tgr tb p) := Lib.hid (by subst hx57 hx54 hx53 hx48 hx47 hx43 hx42 hx38 hx37 hx33 hx32 hx28 hx27 hx23 hx22 hx20; rfl)
      have HA20 : Hid (∀ w, (Op.stringOp .add kc ⟨#[32]⟩).run Tryd.prog w = .ok (.string x20) w) := Lib.hid (fun w => by rw [hx20]; exact run_string_add_sum w _ _ (by omega))
      have HA22 : Hid (∀ w, (Op.stringOp .add x20 tm).run Tryd.prog w = .ok (.string x22) w) := Lib.hid (fun w => by rw [hx22]; exact run_string_add_sum w _ _ (by omega))
      have HA23 : Hid (∀ w, (Op.stringOp .add x22 ⟨#[32]⟩).run Tryd.prog w = .ok (.string x23) w) := Lib.hid (fun w => by rw [hx23]; exact run_string_add_sum w _ _ (by omega))
      have HA27 : Hid (∀ w, (Op.stringOp .add x23 tu).run Tryd.prog w = .ok (.string x27) w) := Lib.hid (fun w => by rw [hx27]; exact run_string_add_sum w _ _ (by omega))
      have HA28 : Hid (∀ w, (Op.stringOp .add x27 ⟨#[32]⟩).run Tryd.prog w = .ok (.string x28) w) := Lib.hid (fun w => by rw [hx28]; exact run_string_add_sum w _ _ (by omega))
      have HA32 : Hid (∀ w, (Op.stringOp .add x28 tg).run Tryd.prog w = .ok (.string x32) w) := Lib.hid (fun w => by rw [hx32]; exact run_string_add_sum w _ _ (by omega))
      have HA33 : Hid (∀ w, (Op.stringOp .add x32 ⟨#[32]⟩).run Tryd.prog w = .ok (.string x33) w) := Lib.hid (fun w => by rw [hx33]; exact run_string_add_sum w _ _ (by omega))
      have HA37 : Hid (∀ w, (Op.stringOp .add x33 tt).run Tryd.prog w = .ok (.string x37) w) := Lib.hid (fun w => by rw [hx37]; exact run_string_add_sum w _ _ (by omega))
      have HA38 : Hid (∀ w, (Op.stringOp .add x37 ⟨#[32]⟩).run Tryd.prog w = .ok (.string x38) w) := Lib.hid (fun w => by rw [hx38]; exact run_string_add_sum w _ _ (by omega))
      have HA42 : Hid (∀ w, (Op.stringOp .add x38 tus).run Tryd.prog w = .ok (.string x42) w) := Lib.hid (fun w => by rw [hx42]; exact run_string_add_sum w _ _ (by omega))
      have HA43 : Hid (∀ w, (Op.stringOp .add x42 ⟨#[32]⟩).run Tryd.prog w = .ok (.string x43) w) := Lib.hid (fun w => by rw [hx43]; exact run_string_add_sum w _ _ (by omega))
      have HA47 : Hid (∀ w, (Op.stringOp .add x43 tgr).run Tryd.prog w = .ok (.string x47) w) := Lib.hid (fun w => by rw [hx47]; exact run_string_add_sum w _ _ (by omega))
      have HA48 : Hid (∀ w, (Op.stringOp .add x47 ⟨#[32]⟩).run Tryd.prog w = .ok (.string x48) w) := Lib.hid (fun w => by rw [hx48]; exact run_string_add_sum w _ _ (by omega))
      have HA53 : Hid (∀ w, (Op.stringOp .add x48 tb).run Tryd.prog w = .ok (.string x53) w) := Lib.hid (fun w => by rw [hx53]; exact run_string_add_sum w _ _ (by omega))
      have HA54 : Hid (∀ w, (Op.stringOp .add x53 ⟨#[32]⟩).run Tryd.prog w = .ok (.string x54) w) := Lib.hid (fun w => by rw [hx54]; exact run_string_add_sum w _ _ (by omega))
      have HA57 : Hid (∀ w, (Op.stringOp .add x54 p).run Tryd.prog w = .ok (.string x57) w) := Lib.hid (fun w => by rw [hx57]; exact run_string_add_sum w _ _ (by omega))
      rw [← HX.out] at HZ HL
      clear hx57 hx54 hx53 hx48 hx47 hx43 hx42 hx38 hx37 hx33 hx32 hx28 hx27 hx23 hx22 hx20 HX
      have HKC := Lib.hid hkc
      clear hkc
      go_enter Tryd.func6, Tryd.ntmps6
      go_wp2_with fail
      refine (HO.out _).mono ?_
      rintro e w1 ⟨rfl, hb⟩
      obtain ⟨k1, bb, zb⟩ := one_new (e1 := ⟨_, p, l, m, u, g, t, us, gr, b⟩) hb
      have E1 := Lib.hid k1
      have B1 := Lib.hid bb
      clear hb k1 bb HO
      obtain ⟨c0, c1, c2, c3, c4, c5, c6, c7, c8, c9⟩ := E1.out.zero
      go_wp2_with (go_at_call 15; refine (HM.out _).mono ?_; rintro e _ ⟨rfl, rfl⟩)
      have KC : Hid (∀ w', Below w1.heap.size w1 w' → w'.cell? ⟨w.heap.size, 0, none⟩ = some (.int .i64 2) ∧ w'.cell? ⟨w.heap.size, 1, none⟩ = some (.string p) ∧ w'.cell? ⟨w.heap.size, 4, none⟩ = some (.int .i64 u) ∧ w'.cell? ⟨w.heap.size, 5, none⟩ = some (.int .i64 g) ∧ w'.cell? ⟨w.heap.size, 6, none⟩ = some (.int .i64 t) ∧ w'.cell? ⟨w.heap.size, 7, none⟩ = some (.string us) ∧ w'.cell? ⟨w.heap.size, 8, none⟩ = some (.string gr) ∧ w'.cell? ⟨w.heap.size, 9, none⟩ = some (.string b)) := Lib.hid (fun w' hb => ⟨(hb.cell (p := ⟨w.heap.size, 0, none⟩) zb).trans c0, (hb.cell (p := ⟨w.heap.size, 1, none⟩) zb).trans c1, (hb.cell (p := ⟨w.heap.size, 4, none⟩) zb).trans c4, (hb.cell (p := ⟨w.heap.size, 5, none⟩) zb).trans c5, (hb.cell (p := ⟨w.heap.size, 6, none⟩) zb).trans c6, (hb.cell (p := ⟨w.heap.size, 7, none⟩) zb).trans c7, (hb.cell (p := ⟨w.heap.size, 8, none⟩) zb).trans c8, (hb.cell (p := ⟨w.heap.size, 9, none⟩) zb).trans c9⟩)
      clear c0 c1 c2 c3 c4 c5 c6 c7 c8 c9
      refine wp_region_inv (by kernel_rfl) (fun w' => Below w1.heap.size w1 w') (fun x y => Below x.heap.size x y) (textV w.heap.size 2 2 kc p tm u g t us gr b tu tg tt tus tgr tb x20 x22 x23 x27 x28 x32 x33 x37 x38 x42 x43 x47 x48 x53 x54 x57) (by kernel_rfl) (kd0 w1) (textV_keep _ _ _ _ _ _ _ _ _ _ _ _ _ _ _ _ _ _ _ _ _ _ _ _ _ _ _ _ _ _ _ _ _ _) ?hops ?hend
      case hops =>
        simp only [List.forall_mem_cons]
        refine ⟨?o15, ?o16, ?o17, ?o18, ?o19, ?o20, ?o21, ?o22, ?o23, ?o24, ?o25, ?o26, ?o27, ?o28, ?o29, ?o30, ?o31, ?o32, ?o33, ?o34, ?o35, ?o36, ?o37, ?o38, ?o39, ?o40, ?o41, ?o42, ?o43, ?o44, ?o45, ?o46, ?o47, ?o48, ?o49, ?o50, ?o51, ?o52, ?o53, ?o54, ?o55, ?o56, ?o57, ?o5, fun _ h => by cases h⟩
        case o15 =>
          intro Q a w2 hC hV hI
          refine op_val (.slice (some ⟨w2.heap.size, 0, none⟩) 4 4) (w' := w2.alloc (.cells #[.string ⟨#[102]⟩, .string ⟨#[100]⟩, .string ⟨#[108]⟩, .string ⟨#[104]⟩] 9)) ?_ (hC.alloc hC.size _) ((Below.refl _ _).alloc (Nat.le_refl _) _) ?_
          · (clear hV hI hC; go_simp <;> (first | rfl | simp))
          · intro d hd; cases hd; exact ⟨w2.heap.size, rfl, by rw [HKC.out]; simp⟩
        case o16 =>
          intro Q a w2 hC hV hI
          have e1 : a.eval (.tmp 1) = .pointer (some ⟨w.heap.size, 0, none⟩) := (hI 1 (by simp [Op.operands]) (by kernel_rfl)).trans rfl
          have f1 : a.tmps.getD 1 undef = .pointer (some ⟨w.heap.size, 0, none⟩) := e1
          have g1 : a.tmps[1]?.getD undef = .pointer (some ⟨w.heap.size, 0, none⟩) := by rw [← Array.getD_eq_getD_getElem?]; exact e1
          refine op_val (.pointer (some ⟨w.heap.size, 0, none⟩)) ?_ hC (Below.refl _ _) (by intro d hd; cases hd; rfl)
          (clear hV hI hC; go_simp <;> (first | rfl | simp))
        case o17 =>
          intro Q a w2 hC hV hI
          have e16 : a.eval (.tmp 16) = .pointer (some ⟨w.heap.size, 0, none⟩) := hV 16 (by simp [Op.operands]) (by kernel_rfl)
          have f16 : a.tmps.getD 16 undef = .pointer (some ⟨w.heap.size, 0, none⟩) := e16
          have g16 : a.tmps[16]?.getD undef = .pointer (some ⟨w.heap.size, 0, none⟩) := by rw [← Array.getD_eq_getD_getElem?]; exact e16
          obtain ⟨d0, d1, d4, d5, d6, d7, d8, d9⟩ := KC.out w2 hC
          refine op_val (.int .i64 2) ?_ hC (Below.refl _ _) (by intro d hd; cases hd; rfl)
          (clear hV hI hC; go_simp <;> (first | rfl | simp))
        case o18 =>
          intro Q a w2 hC hV hI
          obtain ⟨G, e15, hc⟩ : ∃ G, a.eval (.tmp 15) = .slice (some ⟨G, 0, none⟩) 4 4 ∧ w2.cell? ⟨G, 2, none⟩ = some (.string kc) := hV 15 (by simp [Op.operands]) (by kernel_rfl)
          have g15 : a.tmps[15]?.getD undef = .slice (some ⟨G, 0, none⟩) 4 4 := by rw [← Array.getD_eq_getD_getElem?]; exact e15
          have e17 : a.eval (.tmp 17) = .int .i64 2 := hV 17 (by simp [Op.operands]) (by kernel_rfl)
          have f17 : a.tmps.getD 17 undef = .int .i64 2 := e17
          have g17 : a.tmps[17]?.getD undef = .int .i64 2 := by rw [← Array.getD_eq_getD_getElem?]; exact e17
          refine op_val (.pointer (some ⟨G, 2, none⟩)) ?_ hC (Below.refl _ _) ?_
          · (clear hV hI hC; go_simp <;> (first | rfl | simp))
          · intro d hd; cases hd; exact ⟨_, rfl, hc⟩
        case o19 =>
          intro Q a w2 hC hV hI
          obtain ⟨A, e18, hc⟩ : ∃ A, a.eval (.tmp 18) = .pointer (some A) ∧ w2.cell? A = some (.string kc) := hV 18 (by simp [Op.operands]) (by kernel_rfl)
          have g18 : a.tmps[18]?.getD undef = .pointer (some A) := by rw [← Array.getD_eq_getD_getElem?]; exact e18
          refine op_val (.string kc) ?_ hC (Below.refl _ _) (by intro d hd; cases hd; rfl)
          (clear hV hI hC; go_simp <;> (first | rfl | simp))
        case o20 =>
          intro Q a w2 hC hV hI
          have e19 : a.eval (.tmp 19) = .string kc := hV 19 (by simp [Op.operands]) (by kernel_rfl)
          have f19 : a.tmps.getD 19 undef = .string kc := e19
          have g19 : a.tmps[19]?.getD undef = .string kc := by rw [← Array.getD_eq_getD_getElem?]; exact e19
          refine op_val (.string x20) ?_ hC (Below.refl _ _) (by intro d hd; cases hd; rfl)
          have q := HA20.out w2
          (clear hV hI hC; go_simp <;> (first | rfl | simp))
        case o21 =>
          intro Q a w2 hC hV hI
          have e3 : a.eval (.tmp 3) = .string tm := (hI 3 (by simp [Op.operands]) (by kernel_rfl)).trans rfl
          have f3 : a.tmps.getD 3 undef = .string tm := e3
          have g3 : a.tmps[3]?.getD undef = .string tm := by rw [← Array.getD_eq_getD_getElem?]; exact e3
          refine op_val (.string tm) ?_ hC (Below.refl _ _) (by intro d hd; cases hd; rfl)
          (clear hV hI hC; go_simp <;> (first | rfl | simp))
        case o22 =>
          intro Q a w2 hC hV hI
          have e20 : a.eval (.tmp 20) = .string x20 := hV 20 (by simp [Op.operands]) (by kernel_rfl)
          have f20 : a.tmps.getD 20 undef = .string x20 := e20
          have g20 : a.tmps[20]?.getD undef = .string x20 := by rw [← Array.getD_eq_getD_getElem?]; exact e20
          have e21 : a.eval (.tmp 21) = .string tm := hV 21 (by simp [Op.operands]) (by kernel_rfl)
          have f21 : a.tmps.getD 21 undef = .string tm := e21
          have g21 : a.tmps[21]?.getD undef = .string tm := by rw [← Array.getD_eq_getD_getElem?]; exact e21
          refine op_val (.string x22) ?_ hC (Below.refl _ _) (by intro d hd; cases hd; rfl)
          have q := HA22.out w2
          (clear hV hI hC; go_simp <;> (first | rfl | simp))
        case o23 =>
          intro Q a w2 hC hV hI
          have e22 : a.eval (.tmp 22) = .string x22 := hV 22 (by simp [Op.operands]) (by kernel_rfl)
          have f22 : a.tmps.getD 22 undef = .string x22 := e22
          have g22 : a.tmps[22]?.getD undef = .string x22 := by rw [← Array.getD_eq_getD_getElem?]; exact e22
          refine op_val (.string x23) ?_ hC (Below.refl _ _) (by intro d hd; cases hd; rfl)
          have q := HA23.out w2
          (clear hV hI hC; go_simp <;> (first | rfl | simp))
        case o24 =>
          intro Q a w2 hC hV hI
          have e1 : a.eval (.tmp 1) = .pointer (some ⟨w.heap.size, 0, none⟩) := (hI 1 (by simp [Op.operands]) (by kernel_rfl)).trans rfl
          have f1 : a.tmps.getD 1 undef = .pointer (some ⟨w.heap.size, 0, none⟩) := e1
          have g1 : a.tmps[1]?.getD undef = .pointer (some ⟨w.heap.size, 0, none⟩) := by rw [← Array.getD_eq_getD_getElem?]; exact e1
          refine op_val (.pointer (some ⟨w.heap.size, 4, none⟩)) ?_ hC (Below.refl _ _) (by intro d hd; cases hd; rfl)
          (clear hV hI hC; go_simp <;> (first | rfl | simp))
        case o25 =>
          intro Q a w2 hC hV hI
          have e24 : a.eval (.tmp 24) = .pointer (some ⟨w.heap.size, 4, none⟩) := hV 24 (by simp [Op.operands]) (by kernel_rfl)
          have f24 : a.tmps.getD 24 undef = .pointer (some ⟨w.heap.size, 4, none⟩) := e24
          have g24 : a.tmps[24]?.getD undef = .pointer (some ⟨w.heap.size, 4, none⟩) := by rw [← Array.getD_eq_getD_getElem?]; exact e24
          obtain ⟨d0, d1, d4, d5, d6, d7, d8, d9⟩ := KC.out w2 hC
          refine op_val (.int .i64 u) ?_ hC (Below.refl _ _) (by intro d hd; cases hd; rfl)
          (clear hV hI hC; go_simp <;> (first | rfl | simp))
        case o26 =>
          intro Q a w2 hC hV hI
          have e25 : a.eval (.tmp 25) = .int .i64 u := hV 25 (by simp [Op.operands, Call.operands]) (by kernel_rfl)
          have f25 : a.tmps.getD 25 undef = .int .i64 u := e25
          have g25 : a.tmps[25]?.getD undef = .int .i64 u := by rw [← Array.getD_eq_getD_getElem?]; exact e25
          refine op_call (f := 16) (args := #[.int .i64 u]) (R := fun v y => v = .string tu ∧ w2 = y) ?_ ((HU.out w2).mono ?_) ?_
          · (clear hV hI hC; go_simp <;> (first | rfl | simp))
          · rintro e y ⟨rfl, rfl⟩; exact ⟨_, rfl, rfl, rfl⟩
          · rintro v y ⟨rfl, rfl⟩; exact ⟨hC, Below.refl _ _, by intro d hd; cases hd; rfl⟩
        case o27 =>
          intro Q a w2 hC hV hI
          have e23 : a.eval (.tmp 23) = .string x23 := hV 23 (by simp [Op.operands]) (by kernel_rfl)
          have f23 : a.tmps.getD 23 undef = .string x23 := e23
          have g23 : a.tmps[23]?.getD undef = .string x23 := by rw [← Array.getD_eq_getD_getElem?]; exact e23
          have e26 : a.eval (.tmp 26) = .string tu := hV 26 (by simp [Op.operands]) (by kernel_rfl)
          have f26 : a.tmps.getD 26 undef = .string tu := e26
          have g26 : a.tmps[26]?.getD undef = .string tu := by rw [← Array.getD_eq_getD_getElem?]; exact e26
          refine op_val (.string x27) ?_ hC (Below.refl _ _) (by intro d hd; cases hd; rfl)
          have q := HA27.out w2
          (clear hV hI hC; go_simp <;> (first | rfl | simp))
        case o28 =>
          intro Q a w2 hC hV hI
          have e27 : a.eval (.tmp 27) = .string x27 := hV 27 (by simp [Op.operands]) (by kernel_rfl)
          have f27 : a.tmps.getD 27 undef = .string x27 := e27
          have g27 : a.tmps[27]?.getD undef = .string x27 := by rw [← Array.getD_eq_getD_getElem?]; exact e27
          refine op_val (.string x28) ?_ hC (Below.refl _ _) (by intro d hd; cases hd; rfl)
          have q := HA28.out w2
          (clear hV hI hC; go_simp <;> (first | rfl | simp))
        case o29 =>
          intro Q a w2 hC hV hI
          have e1 : a.eval (.tmp 1) = .pointer (some ⟨w.heap.size, 0, none⟩) := (hI 1 (by simp [Op.operands]) (by kernel_rfl)).trans rfl
          have f1 : a.tmps.getD 1 undef = .pointer (some ⟨w.heap.size, 0, none⟩) := e1
          have g1 : a.tmps[1]?.getD undef = .pointer (some ⟨w.heap.size, 0, none⟩) := by rw [← Array.getD_eq_getD_getElem?]; exact e1
          refine op_val (.pointer (some ⟨w.heap.size, 5, none⟩)) ?_ hC (Below.refl _ _) (by intro d hd; cases hd; rfl)
          (clear hV hI hC; go_simp <;> (first | rfl | simp))
        case o30 =>
          intro Q a w2 hC hV hI
          have e29 : a.eval (.tmp 29) = .pointer (some ⟨w.heap.size, 5, none⟩) := hV 29 (by simp [Op.operands]) (by kernel_rfl)
          have f29 : a.tmps.getD 29 undef = .pointer (some ⟨w.heap.size, 5, none⟩) := e29
          have g29 : a.tmps[29]?.getD undef = .pointer (some ⟨w.heap.size, 5, none⟩) := by rw [← Array.getD_eq_getD_getElem?]; exact e29
          obtain ⟨d0, d1, d4, d5, d6, d7, d8, d9⟩ := KC.out w2 hC
          refine op_val (.int .i64 g) ?_ hC (Below.refl _ _) (by intro d hd; cases hd; rfl)
          (clear hV hI hC; go_simp <;> (first | rfl | simp))
        case o31 =>
          intro Q a w2 hC hV hI
          have e30 : a.eval (.tmp 30) = .int .i64 g := hV 30 (by simp [Op.operands, Call.operands]) (by kernel_rfl)
          have f30 : a.tmps.getD 30 undef = .int .i64 g := e30
          have g30 : a.tmps[30]?.getD undef = .int .i64 g := by rw [← Array.getD_eq_getD_getElem?]; exact e30
          refine op_call (f := 16) (args := #[.int .i64 g]) (R := fun v y => v = .string tg ∧ w2 = y) ?_ ((HGd.out w2).mono ?_) ?_
          · (clear hV hI hC; go_simp <;> (first | rfl | simp))
          · rintro e y ⟨rfl, rfl⟩; exact ⟨_, rfl, rfl, rfl⟩
          · rintro v y ⟨rfl, rfl⟩; exact ⟨hC, Below.refl _ _, by intro d hd; cases hd; rfl⟩
        case o32 =>
          intro Q a w2 hC hV hI
          have e28 : a.eval (.tmp 28) = .string x28 := hV 28 (by simp [Op.operands]) (by kernel_rfl)
          have f28 : a.tmps.getD 28 undef = .string x28 := e28
          have g28 : a.tmps[28]?.getD undef = .string x28 := by rw [← Array.getD_eq_getD_getElem?]; exact e28
          have e31 : a.eval (.tmp 31) = .string tg := hV 31 (by simp [Op.operands]) (by kernel_rfl)
          have f31 : a.tmps.getD 31 undef = .string tg := e31
          have g31 : a.tmps[31]?.getD undef = .string tg := by rw [← Array.getD_eq_getD_getElem?]; exact e31
          refine op_val (.string x32) ?_ hC (Below.refl _ _) (by intro d hd; cases hd; rfl)
          have q := HA32.out w2
          (clear hV hI hC; go_simp <;> (first | rfl | simp))
        case o33 =>
          intro Q a w2 hC hV hI
          have e32 : a.eval (.tmp 32) = .string x32 := hV 32 (by simp [Op.operands]) (by kernel_rfl)
          have f32 : a.tmps.getD 32 undef = .string x32 := e32
          have g32 : a.tmps[32]?.getD undef = .string x32 := by rw [← Array.getD_eq_getD_getElem?]; exact e32
          refine op_val (.string x33) ?_ hC (Below.refl _ _) (by intro d hd; cases hd; rfl)
          have q := HA33.out w2
          (clear hV hI hC; go_simp <;> (first | rfl | simp))
        case o34 =>
          intro Q a w2 hC hV hI
          have e1 : a.eval (.tmp 1) = .pointer (some ⟨w.heap.size, 0, none⟩) := (hI 1 (by simp [Op.operands]) (by kernel_rfl)).trans rfl
          have f1 : a.tmps.getD 1 undef = .pointer (some ⟨w.heap.size, 0, none⟩) := e1
          have g1 : a.tmps[1]?.getD undef = .pointer (some ⟨w.heap.size, 0, none⟩) := by rw [← Array.getD_eq_getD_getElem?]; exact e1
          refine op_val (.pointer (some ⟨w.heap.size, 6, none⟩)) ?_ hC (Below.refl _ _) (by intro d hd; cases hd; rfl)
          (clear hV hI hC; go_simp <;> (first | rfl | simp))
        case o35 =>
          intro Q a w2 hC hV hI
          have e34 : a.eval (.tmp 34) = .pointer (some ⟨w.heap.size, 6, none⟩) := hV 34 (by simp [Op.operands]) (by kernel_rfl)
          have f34 : a.tmps.getD 34 undef = .pointer (some ⟨w.heap.size, 6, none⟩) := e34
          have g34 : a.tmps[34]?.getD undef = .pointer (some ⟨w.heap.size, 6, none⟩) := by rw [← Array.getD_eq_getD_getElem?]; exact e34
          obtain ⟨d0, d1, d4, d5, d6, d7, d8, d9⟩ := KC.out w2 hC
          refine op_val (.int .i64 t) ?_ hC (Below.refl _ _) (by intro d hd; cases hd; rfl)
          (clear hV hI hC; go_simp <;> (first | rfl | simp))
        case o36 =>
          intro Q a w2 hC hV hI
          have e35 : a.eval (.tmp 35) = .int .i64 t := hV 35 (by simp [Op.operands, Call.operands]) (by kernel_rfl)
          have f35 : a.tmps.getD 35 undef = .int .i64 t := e35
          have g35 : a.tmps[35]?.getD undef = .int .i64 t := by rw [← Array.getD_eq_getD_getElem?]; exact e35
          refine op_call (f := 16) (args := #[.int .i64 t]) (R := fun v y => v = .string tt ∧ w2 = y) ?_ ((HT.out w2).mono ?_) ?_
          · (clear hV hI hC; go_simp <;> (first | rfl | simp))
          · rintro e y ⟨rfl, rfl⟩; exact ⟨_, rfl, rfl, rfl⟩
          · rintro v y ⟨rfl, rfl⟩; exact ⟨hC, Below.refl _ _, by intro d hd; cases hd; rfl⟩
        case o37 =>
          intro Q a w2 hC hV hI
          have e33 : a.eval (.tmp 33) = .string x33 := hV 33 (by simp [Op.operands]) (by kernel_rfl)
          have f33 : a.tmps.getD 33 undef = .string x33 := e33
          have g33 : a.tmps[33]?.getD undef = .string x33 := by rw [← Array.getD_eq_getD_getElem?]; exact e33
          have e36 : a.eval (.tmp 36) = .string tt := hV 36 (by simp [Op.operands]) (by kernel_rfl)
          have f36 : a.tmps.getD 36 undef = .string tt := e36
          have g36 : a.tmps[36]?.getD undef = .string tt := by rw [← Array.getD_eq_getD_getElem?]; exact e36
          refine op_val (.string x37) ?_ hC (Below.refl _ _) (by intro d hd; cases hd; rfl)
          have q := HA37.out w2
          (clear hV hI hC; go_simp <;> (first | rfl | simp))
        case o38 =>
          intro Q a w2 hC hV hI
          have e37 : a.eval (.tmp 37) = .string x37 := hV 37 (by simp [Op.operands]) (by kernel_rfl)
          have f37 : a.tmps.getD 37 undef = .string x37 := e37
          have g37 : a.tmps[37]?.getD undef = .string x37 := by rw [← Array.getD_eq_getD_getElem?]; exact e37
          refine op_val (.string x38) ?_ hC (Below.refl _ _) (by intro d hd; cases hd; rfl)
          have q := HA38.out w2
          (clear hV hI hC; go_simp <;> (first | rfl | simp))
        case o39 =>
          intro Q a w2 hC hV hI
          have e1 : a.eval (.tmp 1) = .pointer (some ⟨w.heap.size, 0, none⟩) := (hI 1 (by simp [Op.operands]) (by kernel_rfl)).trans rfl
          have f1 : a.tmps.getD 1 undef = .pointer (some ⟨w.heap.size, 0, none⟩) := e1
          have g1 : a.tmps[1]?.getD undef = .pointer (some ⟨w.heap.size, 0, none⟩) := by rw [← Array.getD_eq_getD_getElem?]; exact e1
          refine op_val (.pointer (some ⟨w.heap.size, 7, none⟩)) ?_ hC (Below.refl _ _) (by intro d hd; cases hd; rfl)
          (clear hV hI hC; go_simp <;> (first | rfl | simp))
        case o40 =>
          intro Q a w2 hC hV hI
          have e39 : a.eval (.tmp 39) = .pointer (some ⟨w.heap.size, 7, none⟩) := hV 39 (by simp [Op.operands]) (by kernel_rfl)
          have f39 : a.tmps.getD 39 undef = .pointer (some ⟨w.heap.size, 7, none⟩) := e39
          have g39 : a.tmps[39]?.getD undef = .pointer (some ⟨w.heap.size, 7, none⟩) := by rw [← Array.getD_eq_getD_getElem?]; exact e39
          obtain ⟨d0, d1, d4, d5, d6, d7, d8, d9⟩ := KC.out w2 hC
          refine op_val (.string us) ?_ hC (Below.refl _ _) (by intro d hd; cases hd; rfl)
          (clear hV hI hC; go_simp <;> (first | rfl | simp))
        case o41 =>
          intro Q a w2 hC hV hI
          have e40 : a.eval (.tmp 40) = .string us := hV 40 (by simp [Op.operands, Call.operands]) (by kernel_rfl)
          have f40 : a.tmps.getD 40 undef = .string us := e40
          have g40 : a.tmps[40]?.getD undef = .string us := by rw [← Array.getD_eq_getD_getElem?]; exact e40
          refine op_call (f := 17) (args := #[.string us]) (R := fun v y => v = .string tus ∧ w2 = y) ?_ ((HUs.out w2).mono ?_) ?_
          · (clear hV hI hC; go_simp <;> (first | rfl | simp))
          · rintro e y ⟨rfl, rfl⟩; exact ⟨_, rfl, rfl, rfl⟩
          · rintro v y ⟨rfl, rfl⟩; exact ⟨hC, Below.refl _ _, by intro d hd; cases hd; rfl⟩
        case o42 =>
          intro Q a w2 hC hV hI
          have e38 : a.eval (.tmp 38) = .string x38 := hV 38 (by simp [Op.operands]) (by kernel_rfl)
          have f38 : a.tmps.getD 38 undef = .string x38 := e38
          have g38 : a.tmps[38]?.getD undef = .string x38 := by rw [← Array.getD_eq_getD_getElem?]; exact e38
          have e41 : a.eval (.tmp 41) = .string tus := hV 41 (by simp [Op.operands]) (by kernel_rfl)
          have f41 : a.tmps.getD 41 undef = .string tus := e41
          have g41 : a.tmps[41]?.getD undef = .string tus := by rw [← Array.getD_eq_getD_getElem?]; exact e41
          refine op_val (.string x42) ?_ hC (Below.refl _ _) (by intro d hd; cases hd; rfl)
          have q := HA42.out w2
          (clear hV hI hC; go_simp <;> (first | rfl | simp))
        case o43 =>
          intro Q a w2 hC hV hI
          have e42 : a.eval (.tmp 42) = .string x42 := hV 42 (by simp [Op.operands]) (by kernel_rfl)
          have f42 : a.tmps.getD 42 undef = .string x42 := e42
          have g42 : a.tmps[42]?.getD undef = .string x42 := by rw [← Array.getD_eq_getD_getElem?]; exact e42
          refine op_val (.string x43) ?_ hC (Below.refl _ _) (by intro d hd; cases hd; rfl)
          have q := HA43.out w2
          (clear hV hI hC; go_simp <;> (first | rfl | simp))
        case o44 =>
          intro Q a w2 hC hV hI
          have e1 : a.eval (.tmp 1) = .pointer (some ⟨w.heap.size, 0, none⟩) := (hI 1 (by simp [Op.operands]) (by kernel_rfl)).trans rfl
          have f1 : a.tmps.getD 1 undef = .pointer (some ⟨w.heap.size, 0, none⟩) := e1
          have g1 : a.tmps[1]?.getD undef = .pointer (some ⟨w.heap.size, 0, none⟩) := by rw [← Array.getD_eq_getD_getElem?]; exact e1
          refine op_val (.pointer (some ⟨w.heap.size, 8, none⟩)) ?_ hC (Below.refl _ _) (by intro d hd; cases hd; rfl)
          (clear hV hI hC; go_simp <;> (first | rfl | simp))
        case o45 =>
          intro Q a w2 hC hV hI
          have e44 : a.eval (.tmp 44) = .pointer (some ⟨w.heap.size, 8, none⟩) := hV 44 (by simp [Op.operands]) (by kernel_rfl)
          have f44 : a.tmps.getD 44 undef = .pointer (some ⟨w.heap.size, 8, none⟩) := e44
          have g44 : a.tmps[44]?.getD undef = .pointer (some ⟨w.heap.size, 8, none⟩) := by rw [← Array.getD_eq_getD_getElem?]; exact e44
          obtain ⟨d0, d1, d4, d5, d6, d7, d8, d9⟩ := KC.out w2 hC
          refine op_val (.string gr) ?_ hC (Below.refl _ _) (by intro d hd; cases hd; rfl)
          (clear hV hI hC; go_simp <;> (first | rfl | simp))
        case o46 =>
          intro Q a w2 hC hV hI
          have e45 : a.eval (.tmp 45) = .string gr := hV 45 (by simp [Op.operands, Call.operands]) (by kernel_rfl)
          have f45 : a.tmps.getD 45 undef = .string gr := e45
          have g45 : a.tmps[45]?.getD undef = .string gr := by rw [← Array.getD_eq_getD_getElem?]; exact e45
          refine op_call (f := 17) (args := #[.string gr]) (R := fun v y => v = .string tgr ∧ w2 = y) ?_ ((HGr.out w2).mono ?_) ?_
          · (clear hV hI hC; go_simp <;> (first | rfl | simp))
          · rintro e y ⟨rfl, rfl⟩; exact ⟨_, rfl, rfl, rfl⟩
          · rintro v y ⟨rfl, rfl⟩; exact ⟨hC, Below.refl _ _, by intro d hd; cases hd; rfl⟩
        case o47 =>
          intro Q a w2 hC hV hI
          have e43 : a.eval (.tmp 43) = .string x43 := hV 43 (by simp [Op.operands]) (by kernel_rfl)
          have f43 : a.tmps.getD 43 undef = .string x43 := e43
          have g43 : a.tmps[43]?.getD undef = .string x43 := by rw [← Array.getD_eq_getD_getElem?]; exact e43
          have e46 : a.eval (.tmp 46) = .string tgr := hV 46 (by simp [Op.operands]) (by kernel_rfl)
          have f46 : a.tmps.getD 46 undef = .string tgr := e46
          have g46 : a.tmps[46]?.getD undef = .string tgr := by rw [← Array.getD_eq_getD_getElem?]; exact e46
          refine op_val (.string x47) ?_ hC (Below.refl _ _) (by intro d hd; cases hd; rfl)
          have q := HA47.out w2
          (clear hV hI hC; go_simp <;> (first | rfl | simp))
        case o48 =>
          intro Q a w2 hC hV hI
          have e47 : a.eval (.tmp 47) = .string x47 := hV 47 (by simp [Op.operands]) (by kernel_rfl)
          have f47 : a.tmps.getD 47 undef = .string x47 := e47
          have g47 : a.tmps[47]?.getD undef = .string x47 := by rw [← Array.getD_eq_getD_getElem?]; exact e47
          refine op_val (.string x48) ?_ hC (Below.refl _ _) (by intro d hd; cases hd; rfl)
          have q := HA48.out w2
          (clear hV hI hC; go_simp <;> (first | rfl | simp))
        case o49 =>
          intro Q a w2 hC hV hI
          have e1 : a.eval (.tmp 1) = .pointer (some ⟨w.heap.size, 0, none⟩) := (hI 1 (by simp [Op.operands]) (by kernel_rfl)).trans rfl
          have f1 : a.tmps.getD 1 undef = .pointer (some ⟨w.heap.size, 0, none⟩) := e1
          have g1 : a.tmps[1]?.getD undef = .pointer (some ⟨w.heap.size, 0, none⟩) := by rw [← Array.getD_eq_getD_getElem?]; exact e1
          refine op_val (.pointer (some ⟨w.heap.size, 9, none⟩)) ?_ hC (Below.refl _ _) (by intro d hd; cases hd; rfl)
          (clear hV hI hC; go_simp <;> (first | rfl | simp))
        case o50 =>
          intro Q a w2 hC hV hI
          have e49 : a.eval (.tmp 49) = .pointer (some ⟨w.heap.size, 9, none⟩) := hV 49 (by simp [Op.operands]) (by kernel_rfl)
          have f49 : a.tmps.getD 49 undef = .pointer (some ⟨w.heap.size, 9, none⟩) := e49
          have g49 : a.tmps[49]?.getD undef = .pointer (some ⟨w.heap.size, 9, none⟩) := by rw [← Array.getD_eq_getD_getElem?]; exact e49
          obtain ⟨d0, d1, d4, d5, d6, d7, d8, d9⟩ := KC.out w2 hC
          refine op_val (.string b) ?_ hC (Below.refl _ _) (by intro d hd; cases hd; rfl)
          (clear hV hI hC; go_simp <;> (first | rfl | simp))
        case o51 =>
          intro Q a w2 hC hV hI
          have e50 : a.eval (.tmp 50) = .string b := hV 50 (by simp [Op.operands, Call.operands]) (by kernel_rfl)
          have f50 : a.tmps.getD 50 undef = .string b := e50
          have g50 : a.tmps[50]?.getD undef = .string b := by rw [← Array.getD_eq_getD_getElem?]; exact e50
          refine op_val (.int .i64 (b.size : Int)) ?_ hC (Below.refl _ _) (by intro d hd; cases hd; rfl)
          (clear hV hI hC; go_simp <;> (first | rfl | simp))
        case o52 =>
          intro Q a w2 hC hV hI
          have e51 : a.eval (.tmp 51) = .int .i64 (b.size : Int) := hV 51 (by simp [Op.operands, Call.operands]) (by kernel_rfl)
          have f51 : a.tmps.getD 51 undef = .int .i64 (b.size : Int) := e51
          have g51 : a.tmps[51]?.getD undef = .int .i64 (b.size : Int) := by rw [← Array.getD_eq_getD_getElem?]; exact e51
          refine op_call (f := 16) (args := #[.int .i64 (b.size : Int)]) (R := fun v y => v = .string tb ∧ w2 = y) ?_ ((HBd.out w2).mono ?_) ?_
          · (clear hV hI hC; go_simp <;> (first | rfl | simp))
          · rintro e y ⟨rfl, rfl⟩; exact ⟨_, rfl, rfl, rfl⟩
          · rintro v y ⟨rfl, rfl⟩; exact ⟨hC, Below.refl _ _, by intro d hd; cases hd; rfl⟩
        case o53 =>
          intro Q a w2 hC hV hI
          have e48 : a.eval (.tmp 48) = .string x48 := hV 48 (by simp [Op.operands]) (by kernel_rfl)
          have f48 : a.tmps.getD 48 undef = .string x48 := e48
          have g48 : a.tmps[48]?.getD undef = .string x48 := by rw [← Array.getD_eq_getD_getElem?]; exact e48
          have e52 : a.eval (.tmp 52) = .string tb := hV 52 (by simp [Op.operands]) (by kernel_rfl)
          have f52 : a.tmps.getD 52 undef = .string tb := e52
          have g52 : a.tmps[52]?.getD undef = .string tb := by rw [← Array.getD_eq_getD_getElem?]; exact e52
          refine op_val (.string x53) ?_ hC (Below.refl _ _) (by intro d hd; cases hd; rfl)
          have q := HA53.out w2
          (clear hV hI hC; go_simp <;> (first | rfl | simp))
        case o54 =>
          intro Q a w2 hC hV hI
          have e53 : a.eval (.tmp 53) = .string x53 := hV 53 (by simp [Op.operands]) (by kernel_rfl)
          have f53 : a.tmps.getD 53 undef = .string x53 := e53
          have g53 : a.tmps[53]?.getD undef = .string x53 := by rw [← Array.getD_eq_getD_getElem?]; exact e53
          refine op_val (.string x54) ?_ hC (Below.refl _ _) (by intro d hd; cases hd; rfl)
          have q := HA54.out w2
          (clear hV hI hC; go_simp <;> (first | rfl | simp))
        case o55 =>
          intro Q a w2 hC hV hI
          have e1 : a.eval (.tmp 1) = .pointer (some ⟨w.heap.size, 0, none⟩) := (hI 1 (by simp [Op.operands]) (by kernel_rfl)).trans rfl
          have f1 : a.tmps.getD 1 undef = .pointer (some ⟨w.heap.size, 0, none⟩) := e1
          have g1 : a.tmps[1]?.getD undef = .pointer (some ⟨w.heap.size, 0, none⟩) := by rw [← Array.getD_eq_getD_getElem?]; exact e1
          refine op_val (.pointer (some ⟨w.heap.size, 1, none⟩)) ?_ hC (Below.refl _ _) (by intro d hd; cases hd; rfl)
          (clear hV hI hC; go_simp <;> (first | rfl | simp))
        case o56 =>
          intro Q a w2 hC hV hI
          have e55 : a.eval (.tmp 55) = .pointer (some ⟨w.heap.size, 1, none⟩) := hV 55 (by simp [Op.operands]) (by kernel_rfl)
          have f55 : a.tmps.getD 55 undef = .pointer (some ⟨w.heap.size, 1, none⟩) := e55
          have g55 : a.tmps[55]?.getD undef = .pointer (some ⟨w.heap.size, 1, none⟩) := by rw [← Array.getD_eq_getD_getElem?]; exact e55
          obtain ⟨d0, d1, d4, d5, d6, d7, d8, d9⟩ := KC.out w2 hC
          refine op_val (.string p) ?_ hC (Below.refl _ _) (by intro d hd; cases hd; rfl)
          (clear hV hI hC; go_simp <;> (first | rfl | simp))
        case o57 =>
          intro Q a w2 hC hV hI
          have e54 : a.eval (.tmp 54) = .string x54 := hV 54 (by simp [Op.operands]) (by kernel_rfl)
          have f54 : a.tmps.getD 54 undef = .string x54 := e54
          have g54 : a.tmps[54]?.getD undef = .string x54 := by rw [← Array.getD_eq_getD_getElem?]; exact e54
          have e56 : a.eval (.tmp 56) = .string p := hV 56 (by simp [Op.operands]) (by kernel_rfl)
          have f56 : a.tmps.getD 56 undef = .string p := e56
          have g56 : a.tmps[56]?.getD undef = .string p := by rw [← Array.getD_eq_getD_getElem?]; exact e56
          refine op_val (.string x57) ?_ hC (Below.refl _ _) (by intro d hd; cases hd; rfl)
          have q := HA57.out w2
          (clear hV hI hC; go_simp <;> (first | rfl | simp))
        case o5 =>
          intro Q a w2 hC hV hI
          have e57 : a.eval (.tmp 57) = .string x57 := hV 57 (by simp [Op.operands]) (by kernel_rfl)
          have f57 : a.tmps.getD 57 undef = .string x57 := e57
          have g57 : a.tmps[57]?.getD undef = .string x57 := by rw [← Array.getD_eq_getD_getElem?]; exact e57
          refine op_val (.string x57) ?_ hC (Below.refl _ _) (by intro d hd; cases hd; rfl)
          (clear hV hI hC; go_simp <;> (first | rfl | simp))
      case hend =>
        intro f w2 hC hall
        have E2 := Lib.hid (E1.out.below hC zb)
        have B2 := Lib.hid (btE B1.out hC)
        clear hC KC E1 B1 HA20 HA22 HA23 HA27 HA28 HA32 HA33 HA37 HA38 HA42 HA43 HA47 HA48 HA53 HA54 HA57
        simp only [List.forall_mem_cons] at hall
        obtain ⟨h15, h16, h17, h18, h19, h20, h21, h22, h23, h24, h25, h26, h27, h28, h29, h30, h31, h32, h33, h34, h35, h36, h37, h38, h39, h40, h41, h42, h43, h44, h45, h46, h47, h48, h49, h50, h51, h52, h53, h54, h55, h56, h57, h5, _⟩ := hall
        clear h15
        replace h16 : f 16 = .pointer (some ⟨w.heap.size, 0, none⟩) := h16 16 rfl
        replace h17 : f 17 = .int .i64 2 := h17 17 rfl
        clear h18
        replace h19 : f 19 = .string kc := h19 19 rfl
        replace h20 : f 20 = .string x20 := h20 20 rfl
        replace h21 : f 21 = .string tm := h21 21 rfl
        replace h22 : f 22 = .string x22 := h22 22 rfl
        replace h23 : f 23 = .string x23 := h23 23 rfl
        replace h24 : f 24 = .pointer (some ⟨w.heap.size, 4, none⟩) := h24 24 rfl
        replace h25 : f 25 = .int .i64 u := h25 25 rfl
        replace h26 : f 26 = .string tu := h26 26 rfl
        replace h27 : f 27 = .string x27 := h27 27 rfl
        replace h28 : f 28 = .string x28 := h28 28 rfl
        replace h29 : f 29 = .pointer (some ⟨w.heap.size, 5, none⟩) := h29 29 rfl
        replace h30 : f 30 = .int .i64 g := h30 30 rfl
        replace h31 : f 31 = .string tg := h31 31 rfl
        replace h32 : f 32 = .string x32 := h32 32 rfl
        replace h33 : f 33 = .string x33 := h33 33 rfl
        replace h34 : f 34 = .pointer (some ⟨w.heap.size, 6, none⟩) := h34 34 rfl
        replace h35 : f 35 = .int .i64 t := h35 35 rfl
        replace h36 : f 36 = .string tt := h36 36 rfl
        replace h37 : f 37 = .string x37 := h37 37 rfl
        replace h38 : f 38 = .string x38 := h38 38 rfl
        replace h39 : f 39 = .pointer (some ⟨w.heap.size, 7, none⟩) := h39 39 rfl
        replace h40 : f 40 = .string us := h40 40 rfl
        replace h41 : f 41 = .string tus := h41 41 rfl
        replace h42 : f 42 = .string x42 := h42 42 rfl
        replace h43 : f 43 = .string x43 := h43 43 rfl
        replace h44 : f 44 = .pointer (some ⟨w.heap.size, 8, none⟩) := h44 44 rfl
        replace h45 : f 45 = .string gr := h45 45 rfl
        replace h46 : f 46 = .string tgr := h46 46 rfl
        replace h47 : f 47 = .string x47 := h47 47 rfl
        replace h48 : f 48 = .string x48 := h48 48 rfl
        replace h49 : f 49 = .pointer (some ⟨w.heap.size, 9, none⟩) := h49 49 rfl
        replace h50 : f 50 = .string b := h50 50 rfl
        replace h51 : f 51 = .int .i64 (b.size : Int) := h51 51 rfl
        replace h52 : f 52 = .string tb := h52 52 rfl
        replace h53 : f 53 = .string x53 := h53 53 rfl
        replace h54 : f 54 = .string x54 := h54 54 rfl
        replace h55 : f 55 = .pointer (some ⟨w.heap.size, 1, none⟩) := h55 55 rfl
        replace h56 : f 56 = .string p := h56 56 rfl
        replace h57 : f 57 = .string x57 := h57 57 rfl
        replace h5 : f 5 = .string x57 := h5 5 rfl
        simp only [putAll, Act.put, List.setIfInBounds_toArray, List.set_cons_succ, List.set_cons_zero, h16, h17, h19, h20, h21, h22, h23, h24, h25, h26, h27, h28, h29, h30, h31, h32, h33, h34, h35, h36, h37, h38, h39, h40, h41, h42, h43, h44, h45, h46, h47, h48, h49, h50, h51, h52, h53, h54, h55, h56, h57, h5]
        generalize f 15 = v15
        generalize f 18 = v18
        clear h16 h17 h19 h20 h21 h22 h23 h24 h25 h26 h27 h28 h29 h30 h31 h32 h33 h34 h35 h36 h37 h38 h39 h40 h41 h42 h43 h44 h45 h46 h47 h48 h49 h50 h51 h52 h53 h54 h55 h56 h57 h5
        obtain ⟨c0, c1, c2, c3, c4, c5, c6, c7, c8, c9⟩ := E2.out.zero
        clear c0 c1 c3 c4 c5 c6 c7 c8 c9
        by_cases hl0 : l.size = 0
        · have q := empty_t hl0
          have HF := Lib.hid (HZ.out hl0)
          clear hl0 HZ HL
          go_wp2_with fail
          go_ret
          exact ⟨ret_str HF.out.symm, B2.out⟩
        · have q := empty_f hl0
          have HF := Lib.hid (HL.out hl0)
          clear hl0 HZ HL
          go_wp2_with fail
          go_ret
          exact ⟨ret_str HF.out.symm, B2.out⟩
    · obtain ⟨kc, hkc⟩ : ∃ kc : ByteArray, kc = ⟨#[104]⟩ := ⟨_, rfl⟩
      have HK : Hid (kindCh 3 = kc) := Lib.hid (by rw [hkc]; rfl)
      have zk : kc.size ≤ 1 := by rw [hkc]; decide
      rw [HK.out] at HZ HL
      obtain ⟨x20, hx20⟩ : ∃ x : ByteArray, x = kc ++ ⟨#[32]⟩ := ⟨_, rfl⟩
      obtain ⟨x22, hx22⟩ : ∃ x : ByteArray, x = x20 ++ tm := ⟨_, rfl⟩
      obtain ⟨x23, hx23⟩ : ∃ x : ByteArray, x = x22 ++ ⟨#[32]⟩ := ⟨_, rfl⟩
      obtain ⟨x27, hx27⟩ : ∃ x : ByteArray, x = x23 ++ tu := ⟨_, rfl⟩
      obtain ⟨x28, hx28⟩ : ∃ x : ByteArray, x = x27 ++ ⟨#[32]⟩ := ⟨_, rfl⟩
      obtain ⟨x32, hx32⟩ : ∃ x : ByteArray, x = x28 ++ tg := ⟨_, rfl⟩
      obtain ⟨x33, hx33⟩ : ∃ x : ByteArray, x = x32 ++ ⟨#[32]⟩ := ⟨_, rfl⟩
      obtain ⟨x37, hx37⟩ : ∃ x : ByteArray, x = x33 ++ tt := ⟨_, rfl⟩
      obtain ⟨x38, hx38⟩ : ∃ x : ByteArray, x = x37 ++ ⟨#[32]⟩ := ⟨_, rfl⟩
      obtain ⟨x42, hx42⟩ : ∃ x : ByteArray, x = x38 ++ tus := ⟨_, rfl⟩
      obtain ⟨x43, hx43⟩ : ∃ x : ByteArray, x = x42 ++ ⟨#[32]⟩ := ⟨_, rfl⟩
      obtain ⟨x47, hx47⟩ : ∃ x : ByteArray, x = x43 ++ tgr := ⟨_, rfl⟩
      obtain ⟨x48, hx48⟩ : ∃ x : ByteArray, x = x47 ++ ⟨#[32]⟩ := ⟨_, rfl⟩
      obtain ⟨x53, hx53⟩ : ∃ x : ByteArray, x = x48 ++ tb := ⟨_, rfl⟩
      obtain ⟨x54, hx54⟩ : ∃ x : ByteArray, x = x53 ++ ⟨#[32]⟩ := ⟨_, rfl⟩
      obtain ⟨x57, hx57⟩ : ∃ x : ByteArray, x = x54 ++ p := ⟨_, rfl⟩
      have zsp : (⟨#[32]⟩ : ByteArray).size = 1 := rfl
      have zx20 : x20.size ≤ 2 := by rw [hx20, ByteArray.size_append]; omega
      have zx22 : x22.size ≤ 6 := by rw [hx22, ByteArray.size_append]; omega
      have zx23 : x23.size ≤ 7 := by rw [hx23, ByteArray.size_append]; omega
      have zx27 : x27.size ≤ 19 := by rw [hx27, ByteArray.size_append]; omega
      have zx28 : x28.size ≤ 20 := by rw [hx28, ByteArray.size_append]; omega
      have zx32 : x32.size ≤ 32 := by rw [hx32, ByteArray.size_append]; omega
      have zx33 : x33.size ≤ 33 := by rw [hx33, ByteArray.size_append]; omega
      have zx37 : x37.size ≤ 45 := by rw [hx37, ByteArray.size_append]; omega
      have zx38 : x38.size ≤ 46 := by rw [hx38, ByteArray.size_append]; omega
      have zx42 : x42.size ≤ 66 := by rw [hx42, ByteArray.size_append]; omega
      have zx43 : x43.size ≤ 67 := by rw [hx43, ByteArray.size_append]; omega
      have zx47 : x47.size ≤ 87 := by rw [hx47, ByteArray.size_append]; omega
      have zx48 : x48.size ≤ 88 := by rw [hx48, ByteArray.size_append]; omega
      have zx53 : x53.size ≤ 100 := by rw [hx53, ByteArray.size_append]; omega
      have zx54 : x54.size ≤ 101 := by rw [hx54, ByteArray.size_append]; omega
      have zx57 : x57.size ≤ 301 := by rw [hx57, ByteArray.size_append]; omega
      have HX : Hid (x57 = nineS kc tm tu tg tt tus tgr tb p) := Lib.hid (by subst hx57 hx54 hx53 hx48 hx47 hx43 hx42 hx38 hx37 hx33 hx32 hx28 hx27 hx23 hx22 hx20; rfl)
      have HA20 : Hid (∀ w, (Op.stringOp .add kc ⟨#[32]⟩).run Tryd.prog w = .ok (.string x20) w) := Lib.hid (fun w => by rw [hx20]; exact run_string_add_sum w _ _ (by omega))
      have HA22 : Hid (∀ w, (Op.stringOp .add x20 tm).run Tryd.prog w = .ok (.string x22) w) := Lib.hid (fun w => by rw [hx22]; exact run_string_add_sum w _ _ (by omega))
      have HA23 : Hid (∀ w, (Op.stringOp .add x22 ⟨#[32]⟩).run Tryd.prog w = .ok (.string x23) w) := Lib.hid (fun w => by rw [hx23]; exact run_string_add_sum w _ _ (by omega))
      have HA27 : Hid (∀ w, (Op.stringOp .add x23 tu).run Tryd.prog w = .ok (.string x27) w) := Lib.hid (fun w => by rw [hx27]; exact run_string_add_sum w _ _ (by omega))
      have HA28 : Hid (∀ w, (Op.stringOp .add x27 ⟨#[32]⟩).run Tryd.prog w = .ok (.string x28) w) := Lib.hid (fun w => by rw [hx28]; exact run_string_add_sum w _ _ (by omega))
      have HA32 : Hid (∀ w, (Op.stringOp .add x28 tg).run Tryd.prog w = .ok (.string x32) w) := Lib.hid (fun w => by rw [hx32]; exact run_string_add_sum w _ _ (by omega))
      have HA33 : Hid (∀ w, (Op.stringOp .add x32 ⟨#[32]⟩).run Tryd.prog w = .ok (.string x33) w) := Lib.hid (fun w => by rw [hx33]; exact run_string_add_sum w _ _ (by omega))
      have HA37 : Hid (∀ w, (Op.stringOp .add x33 tt).run Tryd.prog w = .ok (.string x37) w) := Lib.hid (fun w => by rw [hx37]; exact run_string_add_sum w _ _ (by omega))
      have HA38 : Hid (∀ w, (Op.stringOp .add x37 ⟨#[32]⟩).run Tryd.prog w = .ok (.string x38) w) := Lib.hid (fun w => by rw [hx38]; exact run_string_add_sum w _ _ (by omega))
      have HA42 : Hid (∀ w, (Op.stringOp .add x38 tus).run Tryd.prog w = .ok (.string x42) w) := Lib.hid (fun w => by rw [hx42]; exact run_string_add_sum w _ _ (by omega))
      have HA43 : Hid (∀ w, (Op.stringOp .add x42 ⟨#[32]⟩).run Tryd.prog w = .ok (.string x43) w) := Lib.hid (fun w => by rw [hx43]; exact run_string_add_sum w _ _ (by omega))
      have HA47 : Hid (∀ w, (Op.stringOp .add x43 tgr).run Tryd.prog w = .ok (.string x47) w) := Lib.hid (fun w => by rw [hx47]; exact run_string_add_sum w _ _ (by omega))
      have HA48 : Hid (∀ w, (Op.stringOp .add x47 ⟨#[32]⟩).run Tryd.prog w = .ok (.string x48) w) := Lib.hid (fun w => by rw [hx48]; exact run_string_add_sum w _ _ (by omega))
      have HA53 : Hid (∀ w, (Op.stringOp .add x48 tb).run Tryd.prog w = .ok (.string x53) w) := Lib.hid (fun w => by rw [hx53]; exact run_string_add_sum w _ _ (by omega))
      have HA54 : Hid (∀ w, (Op.stringOp .add x53 ⟨#[32]⟩).run Tryd.prog w = .ok (.string x54) w) := Lib.hid (fun w => by rw [hx54]; exact run_string_add_sum w _ _ (by omega))
      have HA57 : Hid (∀ w, (Op.stringOp .add x54 p).run Tryd.prog w = .ok (.string x57) w) := Lib.hid (fun w => by rw [hx57]; exact run_string_add_sum w _ _ (by omega))
      rw [← HX.out] at HZ HL
      clear hx57 hx54 hx53 hx48 hx47 hx43 hx42 hx38 hx37 hx33 hx32 hx28 hx27 hx23 hx22 hx20 HX
      have HKC := Lib.hid hkc
      clear hkc
      go_enter Tryd.func6, Tryd.ntmps6
      go_wp2_with fail
      refine (HO.out _).mono ?_
      rintro e w1 ⟨rfl, hb⟩
      obtain ⟨k1, bb, zb⟩ := one_new (e1 := ⟨_, p, l, m, u, g, t, us, gr, b⟩) hb
      have E1 := Lib.hid k1
      have B1 := Lib.hid bb
      clear hb k1 bb HO
      obtain ⟨c0, c1, c2, c3, c4, c5, c6, c7, c8, c9⟩ := E1.out.zero
      go_wp2_with (go_at_call 15; refine (HM.out _).mono ?_; rintro e _ ⟨rfl, rfl⟩)
      have KC : Hid (∀ w', Below w1.heap.size w1 w' → w'.cell? ⟨w.heap.size, 0, none⟩ = some (.int .i64 3) ∧ w'.cell? ⟨w.heap.size, 1, none⟩ = some (.string p) ∧ w'.cell? ⟨w.heap.size, 4, none⟩ = some (.int .i64 u) ∧ w'.cell? ⟨w.heap.size, 5, none⟩ = some (.int .i64 g) ∧ w'.cell? ⟨w.heap.size, 6, none⟩ = some (.int .i64 t) ∧ w'.cell? ⟨w.heap.size, 7, none⟩ = some (.string us) ∧ w'.cell? ⟨w.heap.size, 8, none⟩ = some (.string gr) ∧ w'.cell? ⟨w.heap.size, 9, none⟩ = some (.string b)) := Lib.hid (fun w' hb => ⟨(hb.cell (p := ⟨w.heap.size, 0, none⟩) zb).trans c0, (hb.cell (p := ⟨w.heap.size, 1, none⟩) zb).trans c1, (hb.cell (p := ⟨w.heap.size, 4, none⟩) zb).trans c4, (hb.cell (p := ⟨w.heap.size, 5, none⟩) zb).trans c5, (hb.cell (p := ⟨w.heap.size, 6, none⟩) zb).trans c6, (hb.cell (p := ⟨w.heap.size, 7, none⟩) zb).trans c7, (hb.cell (p := ⟨w.heap.size, 8, none⟩) zb).trans c8, (hb.cell (p := ⟨w.heap.size, 9, none⟩) zb).trans c9⟩)
      clear c0 c1 c2 c3 c4 c5 c6 c7 c8 c9
      refine wp_region_inv (by kernel_rfl) (fun w' => Below w1.heap.size w1 w') (fun x y => Below x.heap.size x y) (textV w.heap.size 3 3 kc p tm u g t us gr b tu tg tt tus tgr tb x20 x22 x23 x27 x28 x32 x33 x37 x38 x42 x43 x47 x48 x53 x54 x57) (by kernel_rfl) (kd0 w1) (textV_keep _ _ _ _ _ _ _ _ _ _ _ _ _ _ _ _ _ _ _ _ _ _ _ _ _ _ _ _ _ _ _ _ _ _) ?hops ?hend
      case hops =>
        simp only [List.forall_mem_cons]
        refine ⟨?o15, ?o16, ?o17, ?o18, ?o19, ?o20, ?o21, ?o22, ?o23, ?o24, ?o25, ?o26, ?o27, ?o28, ?o29, ?o30, ?o31, ?o32, ?o33, ?o34, ?o35, ?o36, ?o37, ?o38, ?o39, ?o40, ?o41, ?o42, ?o43, ?o44, ?o45, ?o46, ?o47, ?o48, ?o49, ?o50, ?o51, ?o52, ?o53, ?o54, ?o55, ?o56, ?o57, ?o5, fun _ h => by cases h⟩
        case o15 =>
          intro Q a w2 hC hV hI
          refine op_val (.slice (some ⟨w2.heap.size, 0, none⟩) 4 4) (w' := w2.alloc (.cells #[.string ⟨#[102]⟩, .string ⟨#[100]⟩, .string ⟨#[108]⟩, .string ⟨#[104]⟩] 9)) ?_ (hC.alloc hC.size _) ((Below.refl _ _).alloc (Nat.le_refl _) _) ?_
          · (clear hV hI hC; go_simp <;> (first | rfl | simp))
          · intro d hd; cases hd; exact ⟨w2.heap.size, rfl, by rw [HKC.out]; simp⟩
        case o16 =>
          intro Q a w2 hC hV hI
          have e1 : a.eval (.tmp 1) = .pointer (some ⟨w.heap.size, 0, none⟩) := (hI 1 (by simp [Op.operands]) (by kernel_rfl)).trans rfl
          have f1 : a.tmps.getD 1 undef = .pointer (some ⟨w.heap.size, 0, none⟩) := e1
          have g1 : a.tmps[1]?.getD undef = .pointer (some ⟨w.heap.size, 0, none⟩) := by rw [← Array.getD_eq_getD_getElem?]; exact e1
          refine op_val (.pointer (some ⟨w.heap.size, 0, none⟩)) ?_ hC (Below.refl _ _) (by intro d hd; cases hd; rfl)
          (clear hV hI hC; go_simp <;> (first | rfl | simp))
        case o17 =>
          intro Q a w2 hC hV hI
          have e16 : a.eval (.tmp 16) = .pointer (some ⟨w.heap.size, 0, none⟩) := hV 16 (by simp [Op.operands]) (by kernel_rfl)
          have f16 : a.tmps.getD 16 undef = .pointer (some ⟨w.heap.size, 0, none⟩) := e16
          have g16 : a.tmps[16]?.getD undef = .pointer (some ⟨w.heap.size, 0, none⟩) := by rw [← Array.getD_eq_getD_getElem?]; exact e16
          obtain ⟨d0, d1, d4, d5, d6, d7, d8, d9⟩ := KC.out w2 hC
          refine op_val (.int .i64 3) ?_ hC (Below.refl _ _) (by intro d hd; cases hd; rfl)
          (clear hV hI hC; go_simp <;> (first | rfl | simp))
        case o18 =>
          intro Q a w2 hC hV hI
          obtain ⟨G, e15, hc⟩ : ∃ G, a.eval (.tmp 15) = .slice (some ⟨G, 0, none⟩) 4 4 ∧ w2.cell? ⟨G, 3, none⟩ = some (.string kc) := hV 15 (by simp [Op.operands]) (by kernel_rfl)
          have g15 : a.tmps[15]?.getD undef = .slice (some ⟨G, 0, none⟩) 4 4 := by rw [← Array.getD_eq_getD_getElem?]; exact e15
          have e17 : a.eval (.tmp 17) = .int .i64 3 := hV 17 (by simp [Op.operands]) (by kernel_rfl)
          have f17 : a.tmps.getD 17 undef = .int .i64 3 := e17
          have g17 : a.tmps[17]?.getD undef = .int .i64 3 := by rw [← Array.getD_eq_getD_getElem?]; exact e17
          refine op_val (.pointer (some ⟨G, 3, none⟩)) ?_ hC (Below.refl _ _) ?_
          · (clear hV hI hC; go_simp <;> (first | rfl | simp))
          · intro d hd; cases hd; exact ⟨_, rfl, hc⟩
        case o19 =>
          intro Q a w2 hC hV hI
          obtain ⟨A, e18, hc⟩ : ∃ A, a.eval (.tmp 18) = .pointer (some A) ∧ w2.cell? A = some (.string kc) := hV 18 (by simp [Op.operands]) (by kernel_rfl)
          have g18 : a.tmps[18]?.getD undef = .pointer (some A) := by rw [← Array.getD_eq_getD_getElem?]; exact e18
          refine op_val (.string kc) ?_ hC (Below.refl _ _) (by intro d hd; cases hd; rfl)
          (clear hV hI hC; go_simp <;> (first | rfl | simp))
        case o20 =>
          intro Q a w2 hC hV hI
          have e19 : a.eval (.tmp 19) = .string kc := hV 19 (by simp [Op.operands]) (by kernel_rfl)
          have f19 : a.tmps.getD 19 undef = .string kc := e19
          have g19 : a.tmps[19]?.getD undef = .string kc := by rw [← Array.getD_eq_getD_getElem?]; exact e19
          refine op_val (.string x20) ?_ hC (Below.refl _ _) (by intro d hd; cases hd; rfl)
          have q := HA20.out w2
          (clear hV hI hC; go_simp <;> (first | rfl | simp))
        case o21 =>
          intro Q a w2 hC hV hI
          have e3 : a.eval (.tmp 3) = .string tm := (hI 3 (by simp [Op.operands]) (by kernel_rfl)).trans rfl
          have f3 : a.tmps.getD 3 undef = .string tm := e3
          have g3 : a.tmps[3]?.getD undef = .string tm := by rw [← Array.getD_eq_getD_getElem?]; exact e3
          refine op_val (.string tm) ?_ hC (Below.refl _ _) (by intro d hd; cases hd; rfl)
          (clear hV hI hC; go_simp <;> (first | rfl | simp))
        case o22 =>
          intro Q a w2 hC hV hI
          have e20 : a.eval (.tmp 20) = .string x20 := hV 20 (by simp [Op.operands]) (by kernel_rfl)
          have f20 : a.tmps.getD 20 undef = .string x20 := e20
          have g20 : a.tmps[20]?.getD undef = .string x20 := by rw [← Array.getD_eq_getD_getElem?]; exact e20
          have e21 : a.eval (.tmp 21) = .string tm := hV 21 (by simp [Op.operands]) (by kernel_rfl)
          have f21 : a.tmps.getD 21 undef = .string tm := e21
          have g21 : a.tmps[21]?.getD undef = .string tm := by rw [← Array.getD_eq_getD_getElem?]; exact e21
          refine op_val (.string x22) ?_ hC (Below.refl _ _) (by intro d hd; cases hd; rfl)
          have q := HA22.out w2
          (clear hV hI hC; go_simp <;> (first | rfl | simp))
        case o23 =>
          intro Q a w2 hC hV hI
          have e22 : a.eval (.tmp 22) = .string x22 := hV 22 (by simp [Op.operands]) (by kernel_rfl)
          have f22 : a.tmps.getD 22 undef = .string x22 := e22
          have g22 : a.tmps[22]?.getD undef = .string x22 := by rw [← Array.getD_eq_getD_getElem?]; exact e22
          refine op_val (.string x23) ?_ hC (Below.refl _ _) (by intro d hd; cases hd; rfl)
          have q := HA23.out w2
          (clear hV hI hC; go_simp <;> (first | rfl | simp))
        case o24 =>
          intro Q a w2 hC hV hI
          have e1 : a.eval (.tmp 1) = .pointer (some ⟨w.heap.size, 0, none⟩) := (hI 1 (by simp [Op.operands]) (by kernel_rfl)).trans rfl
          have f1 : a.tmps.getD 1 undef = .pointer (some ⟨w.heap.size, 0, none⟩) := e1
          have g1 : a.tmps[1]?.getD undef = .pointer (some ⟨w.heap.size, 0, none⟩) := by rw [← Array.getD_eq_getD_getElem?]; exact e1
          refine op_val (.pointer (some ⟨w.heap.size, 4, none⟩)) ?_ hC (Below.refl _ _) (by intro d hd; cases hd; rfl)
          (clear hV hI hC; go_simp <;> (first | rfl | simp))
        case o25 =>
          intro Q a w2 hC hV hI
          have e24 : a.eval (.tmp 24) = .pointer (some ⟨w.heap.size, 4, none⟩) := hV 24 (by simp [Op.operands]) (by kernel_rfl)
          have f24 : a.tmps.getD 24 undef = .pointer (some ⟨w.heap.size, 4, none⟩) := e24
          have g24 : a.tmps[24]?.getD undef = .pointer (some ⟨w.heap.size, 4, none⟩) := by rw [← Array.getD_eq_getD_getElem?]; exact e24
          obtain ⟨d0, d1, d4, d5, d6, d7, d8, d9⟩ := KC.out w2 hC
          refine op_val (.int .i64 u) ?_ hC (Below.refl _ _) (by intro d hd; cases hd; rfl)
          (clear hV hI hC; go_simp <;> (first | rfl | simp))
        case o26 =>
          intro Q a w2 hC hV hI
          have e25 : a.eval (.tmp 25) = .int .i64 u := hV 25 (by simp [Op.operands, Call.operands]) (by kernel_rfl)
          have f25 : a.tmps.getD 25 undef = .int .i64 u := e25
          have g25 : a.tmps[25]?.getD undef = .int .i64 u := by rw [← Array.getD_eq_getD_getElem?]; exact e25
          refine op_call (f := 16) (args := #[.int .i64 u]) (R := fun v y => v = .string tu ∧ w2 = y) ?_ ((HU.out w2).mono ?_) ?_
          · (clear hV hI hC; go_simp <;> (first | rfl | simp))
          · rintro e y ⟨rfl, rfl⟩; exact ⟨_, rfl, rfl, rfl⟩
          · rintro v y ⟨rfl, rfl⟩; exact ⟨hC, Below.refl _ _, by intro d hd; cases hd; rfl⟩
        case o27 =>
          intro Q a w2 hC hV hI
          have e23 : a.eval (.tmp 23) = .string x23 := hV 23 (by simp [Op.operands]) (by kernel_rfl)
          have f23 : a.tmps.getD 23 undef = .string x23 := e23
          have g23 : a.tmps[23]?.getD undef = .string x23 := by rw [← Array.getD_eq_getD_getElem?]; exact e23
          have e26 : a.eval (.tmp 26) = .string tu := hV 26 (by simp [Op.operands]) (by kernel_rfl)
          have f26 : a.tmps.getD 26 undef = .string tu := e26
          have g26 : a.tmps[26]?.getD undef = .string tu := by rw [← Array.getD_eq_getD_getElem?]; exact e26
          refine op_val (.string x27) ?_ hC (Below.refl _ _) (by intro d hd; cases hd; rfl)
          have q := HA27.out w2
          (clear hV hI hC; go_simp <;> (first | rfl | simp))
        case o28 =>
          intro Q a w2 hC hV hI
          have e27 : a.eval (.tmp 27) = .string x27 := hV 27 (by simp [Op.operands]) (by kernel_rfl)
          have f27 : a.tmps.getD 27 undef = .string x27 := e27
          have g27 : a.tmps[27]?.getD undef = .string x27 := by rw [← Array.getD_eq_getD_getElem?]; exact e27
          refine op_val (.string x28) ?_ hC (Below.refl _ _) (by intro d hd; cases hd; rfl)
          have q := HA28.out w2
          (clear hV hI hC; go_simp <;> (first | rfl | simp))
        case o29 =>
          intro Q a w2 hC hV hI
          have e1 : a.eval (.tmp 1) = .pointer (some ⟨w.heap.size, 0, none⟩) := (hI 1 (by simp [Op.operands]) (by kernel_rfl)).trans rfl
          have f1 : a.tmps.getD 1 undef = .pointer (some ⟨w.heap.size, 0, none⟩) := e1
          have g1 : a.tmps[1]?.getD undef = .pointer (some ⟨w.heap.size, 0, none⟩) := by rw [← Array.getD_eq_getD_getElem?]; exact e1
          refine op_val (.pointer (some ⟨w.heap.size, 5, none⟩)) ?_ hC (Below.refl _ _) (by intro d hd; cases hd; rfl)
          (clear hV hI hC; go_simp <;> (first | rfl | simp))
        case o30 =>
          intro Q a w2 hC hV hI
          have e29 : a.eval (.tmp 29) = .pointer (some ⟨w.heap.size, 5, none⟩) := hV 29 (by simp [Op.operands]) (by kernel_rfl)
          have f29 : a.tmps.getD 29 undef = .pointer (some ⟨w.heap.size, 5, none⟩) := e29
          have g29 : a.tmps[29]?.getD undef = .pointer (some ⟨w.heap.size, 5, none⟩) := by rw [← Array.getD_eq_getD_getElem?]; exact e29
          obtain ⟨d0, d1, d4, d5, d6, d7, d8, d9⟩ := KC.out w2 hC
          refine op_val (.int .i64 g) ?_ hC (Below.refl _ _) (by intro d hd; cases hd; rfl)
          (clear hV hI hC; go_simp <;> (first | rfl | simp))
        case o31 =>
          intro Q a w2 hC hV hI
          have e30 : a.eval (.tmp 30) = .int .i64 g := hV 30 (by simp [Op.operands, Call.operands]) (by kernel_rfl)
          have f30 : a.tmps.getD 30 undef = .int .i64 g := e30
          have g30 : a.tmps[30]?.getD undef = .int .i64 g := by rw [← Array.getD_eq_getD_getElem?]; exact e30
          refine op_call (f := 16) (args := #[.int .i64 g]) (R := fun v y => v = .string tg ∧ w2 = y) ?_ ((HGd.out w2).mono ?_) ?_
          · (clear hV hI hC; go_simp <;> (first | rfl | simp))
          · rintro e y ⟨rfl, rfl⟩; exact ⟨_, rfl, rfl, rfl⟩
          · rintro v y ⟨rfl, rfl⟩; exact ⟨hC, Below.refl _ _, by intro d hd; cases hd; rfl⟩
        case o32 =>
          intro Q a w2 hC hV hI
          have e28 : a.eval (.tmp 28) = .string x28 := hV 28 (by simp [Op.operands]) (by kernel_rfl)
          have f28 : a.tmps.getD 28 undef = .string x28 := e28
          have g28 : a.tmps[28]?.getD undef = .string x28 := by rw [← Array.getD_eq_getD_getElem?]; exact e28
          have e31 : a.eval (.tmp 31) = .string tg := hV 31 (by simp [Op.operands]) (by kernel_rfl)
          have f31 : a.tmps.getD 31 undef = .string tg := e31
          have g31 : a.tmps[31]?.getD undef = .string tg := by rw [← Array.getD_eq_getD_getElem?]; exact e31
          refine op_val (.string x32) ?_ hC (Below.refl _ _) (by intro d hd; cases hd; rfl)
          have q := HA32.out w2
          (clear hV hI hC; go_simp <;> (first | rfl | simp))
        case o33 =>
          intro Q a w2 hC hV hI
          have e32 : a.eval (.tmp 32) = .string x32 := hV 32 (by simp [Op.operands]) (by kernel_rfl)
          have f32 : a.tmps.getD 32 undef = .string x32 := e32
          have g32 : a.tmps[32]?.getD undef = .string x32 := by rw [← Array.getD_eq_getD_getElem?]; exact e32
          refine op_val (.string x33) ?_ hC (Below.refl _ _) (by intro d hd; cases hd; rfl)
          have q := HA33.out w2
          (clear hV hI hC; go_simp <;> (first | rfl | simp))
        case o34 =>
          intro Q a w2 hC hV hI
          have e1 : a.eval (.tmp 1) = .pointer (some ⟨w.heap.size, 0, none⟩) := (hI 1 (by simp [Op.operands]) (by kernel_rfl)).trans rfl
          have f1 : a.tmps.getD 1 undef = .pointer (some ⟨w.heap.size, 0, none⟩) := e1
          have g1 : a.tmps[1]?.getD undef = .pointer (some ⟨w.heap.size, 0, none⟩) := by rw [← Array.getD_eq_getD_getElem?]; exact e1
          refine op_val (.pointer (some ⟨w.heap.size, 6, none⟩)) ?_ hC (Below.refl _ _) (by intro d hd; cases hd; rfl)
          (clear hV hI hC; go_simp <;> (first | rfl | simp))
        case o35 =>
          intro Q a w2 hC hV hI
          have e34 : a.eval (.tmp 34) = .pointer (some ⟨w.heap.size, 6, none⟩) := hV 34 (by simp [Op.operands]) (by kernel_rfl)
          have f34 : a.tmps.getD 34 undef = .pointer (some ⟨w.heap.size, 6, none⟩) := e34
          have g34 : a.tmps[34]?.getD undef = .pointer (some ⟨w.heap.size, 6, none⟩) := by rw [← Array.getD_eq_getD_getElem?]; exact e34
          obtain ⟨d0, d1, d4, d5, d6, d7, d8, d9⟩ := KC.out w2 hC
          refine op_val (.int .i64 t) ?_ hC (Below.refl _ _) (by intro d hd; cases hd; rfl)
          (clear hV hI hC; go_simp <;> (first | rfl | simp))
        case o36 =>
          intro Q a w2 hC hV hI
          have e35 : a.eval (.tmp 35) = .int .i64 t := hV 35 (by simp [Op.operands, Call.operands]) (by kernel_rfl)
          have f35 : a.tmps.getD 35 undef = .int .i64 t := e35
          have g35 : a.tmps[35]?.getD undef = .int .i64 t := by rw [← Array.getD_eq_getD_getElem?]; exact e35
          refine op_call (f := 16) (args := #[.int .i64 t]) (R := fun v y => v = .string tt ∧ w2 = y) ?_ ((HT.out w2).mono ?_) ?_
          · (clear hV hI hC; go_simp <;> (first | rfl | simp))
          · rintro e y ⟨rfl, rfl⟩; exact ⟨_, rfl, rfl, rfl⟩
          · rintro v y ⟨rfl, rfl⟩; exact ⟨hC, Below.refl _ _, by intro d hd; cases hd; rfl⟩
        case o37 =>
          intro Q a w2 hC hV hI
          have e33 : a.eval (.tmp 33) = .string x33 := hV 33 (by simp [Op.operands]) (by kernel_rfl)
          have f33 : a.tmps.getD 33 undef = .string x33 := e33
          have g33 : a.tmps[33]?.getD undef = .string x33 := by rw [← Array.getD_eq_getD_getElem?]; exact e33
          have e36 : a.eval (.tmp 36) = .string tt := hV 36 (by simp [Op.operands]) (by kernel_rfl)
          have f36 : a.tmps.getD 36 undef = .string tt := e36
          have g36 : a.tmps[36]?.getD undef = .string tt := by rw [← Array.getD_eq_getD_getElem?]; exact e36
          refine op_val (.string x37) ?_ hC (Below.refl _ _) (by intro d hd; cases hd; rfl)
          have q := HA37.out w2
          (clear hV hI hC; go_simp <;> (first | rfl | simp))
        case o38 =>
          intro Q a w2 hC hV hI
          have e37 : a.eval (.tmp 37) = .string x37 := hV 37 (by simp [Op.operands]) (by kernel_rfl)
          have f37 : a.tmps.getD 37 undef = .string x37 := e37
          have g37 : a.tmps[37]?.getD undef = .string x37 := by rw [← Array.getD_eq_getD_getElem?]; exact e37
          refine op_val (.string x38) ?_ hC (Below.refl _ _) (by intro d hd; cases hd; rfl)
          have q := HA38.out w2
          (clear hV hI hC; go_simp <;> (first | rfl | simp))
        case o39 =>
          intro Q a w2 hC hV hI
          have e1 : a.eval (.tmp 1) = .pointer (some ⟨w.heap.size, 0, none⟩) := (hI 1 (by simp [Op.operands]) (by kernel_rfl)).trans rfl
          have f1 : a.tmps.getD 1 undef = .pointer (some ⟨w.heap.size, 0, none⟩) := e1
          have g1 : a.tmps[1]?.getD undef = .pointer (some ⟨w.heap.size, 0, none⟩) := by rw [← Array.getD_eq_getD_getElem?]; exact e1
          refine op_val (.pointer (some ⟨w.heap.size, 7, none⟩)) ?_ hC (Below.refl _ _) (by intro d hd; cases hd; rfl)
          (clear hV hI hC; go_simp <;> (first | rfl | simp))
        case o40 =>
          intro Q a w2 hC hV hI
          have e39 : a.eval (.tmp 39) = .pointer (some ⟨w.heap.size, 7, none⟩) := hV 39 (by simp [Op.operands]) (by kernel_rfl)
          have f39 : a.tmps.getD 39 undef = .pointer (some ⟨w.heap.size, 7, none⟩) := e39
          have g39 : a.tmps[39]?.getD undef = .pointer (some ⟨w.heap.size, 7, none⟩) := by rw [← Array.getD_eq_getD_getElem?]; exact e39
          obtain ⟨d0, d1, d4, d5, d6, d7, d8, d9⟩ := KC.out w2 hC
          refine op_val (.string us) ?_ hC (Below.refl _ _) (by intro d hd; cases hd; rfl)
          (clear hV hI hC; go_simp <;> (first | rfl | simp))
        case o41 =>
          intro Q a w2 hC hV hI
          have e40 : a.eval (.tmp 40) = .string us := hV 40 (by simp [Op.operands, Call.operands]) (by kernel_rfl)
          have f40 : a.tmps.getD 40 undef = .string us := e40
          have g40 : a.tmps[40]?.getD undef = .string us := by rw [← Array.getD_eq_getD_getElem?]; exact e40
          refine op_call (f := 17) (args := #[.string us]) (R := fun v y => v = .string tus ∧ w2 = y) ?_ ((HUs.out w2).mono ?_) ?_
          · (clear hV hI hC; go_simp <;> (first | rfl | simp))
          · rintro e y ⟨rfl, rfl⟩; exact ⟨_, rfl, rfl, rfl⟩
          · rintro v y ⟨rfl, rfl⟩; exact ⟨hC, Below.refl _ _, by intro d hd; cases hd; rfl⟩
        case o42 =>
          intro Q a w2 hC hV hI
          have e38 : a.eval (.tmp 38) = .string x38 := hV 38 (by simp [Op.operands]) (by kernel_rfl)
          have f38 : a.tmps.getD 38 undef = .string x38 := e38
          have g38 : a.tmps[38]?.getD undef = .string x38 := by rw [← Array.getD_eq_getD_getElem?]; exact e38
          have e41 : a.eval (.tmp 41) = .string tus := hV 41 (by simp [Op.operands]) (by kernel_rfl)
          have f41 : a.tmps.getD 41 undef = .string tus := e41
          have g41 : a.tmps[41]?.getD undef = .string tus := by rw [← Array.getD_eq_getD_getElem?]; exact e41
          refine op_val (.string x42) ?_ hC (Below.refl _ _) (by intro d hd; cases hd; rfl)
          have q := HA42.out w2
          (clear hV hI hC; go_simp <;> (first | rfl | simp))
        case o43 =>
          intro Q a w2 hC hV hI
          have e42 : a.eval (.tmp 42) = .string x42 := hV 42 (by simp [Op.operands]) (by kernel_rfl)
          have f42 : a.tmps.getD 42 undef = .string x42 := e42
          have g42 : a.tmps[42]?.getD undef = .string x42 := by rw [← Array.getD_eq_getD_getElem?]; exact e42
          refine op_val (.string x43) ?_ hC (Below.refl _ _) (by intro d hd; cases hd; rfl)
          have q := HA43.out w2
          (clear hV hI hC; go_simp <;> (first | rfl | simp))
        case o44 =>
          intro Q a w2 hC hV hI
          have e1 : a.eval (.tmp 1) = .pointer (some ⟨w.heap.size, 0, none⟩) := (hI 1 (by simp [Op.operands]) (by kernel_rfl)).trans rfl
          have f1 : a.tmps.getD 1 undef = .pointer (some ⟨w.heap.size, 0, none⟩) := e1
          have g1 : a.tmps[1]?.getD undef = .pointer (some ⟨w.heap.size, 0, none⟩) := by rw [← Array.getD_eq_getD_getElem?]; exact e1
          refine op_val (.pointer (some ⟨w.heap.size, 8, none⟩)) ?_ hC (Below.refl _ _) (by intro d hd; cases hd; rfl)
          (clear hV hI hC; go_simp <;> (first | rfl | simp))
        case o45 =>
          intro Q a w2 hC hV hI
          have e44 : a.eval (.tmp 44) = .pointer (some ⟨w.heap.size, 8, none⟩) := hV 44 (by simp [Op.operands]) (by kernel_rfl)
          have f44 : a.tmps.getD 44 undef = .pointer (some ⟨w.heap.size, 8, none⟩) := e44
          have g44 : a.tmps[44]?.getD undef = .pointer (some ⟨w.heap.size, 8, none⟩) := by rw [← Array.getD_eq_getD_getElem?]; exact e44
          obtain ⟨d0, d1, d4, d5, d6, d7, d8, d9⟩ := KC.out w2 hC
          refine op_val (.string gr) ?_ hC (Below.refl _ _) (by intro d hd; cases hd; rfl)
          (clear hV hI hC; go_simp <;> (first | rfl | simp))
        case o46 =>
          intro Q a w2 hC hV hI
          have e45 : a.eval (.tmp 45) = .string gr := hV 45 (by simp [Op.operands, Call.operands]) (by kernel_rfl)
          have f45 : a.tmps.getD 45 undef = .string gr := e45
          have g45 : a.tmps[45]?.getD undef = .string gr := by rw [← Array.getD_eq_getD_getElem?]; exact e45
          refine op_call (f := 17) (args := #[.string gr]) (R := fun v y => v = .string tgr ∧ w2 = y) ?_ ((HGr.out w2).mono ?_) ?_
          · (clear hV hI hC; go_simp <;> (first | rfl | simp))
          · rintro e y ⟨rfl, rfl⟩; exact ⟨_, rfl, rfl, rfl⟩
          · rintro v y ⟨rfl, rfl⟩; exact ⟨hC, Below.refl _ _, by intro d hd; cases hd; rfl⟩
        case o47 =>
          intro Q a w2 hC hV hI
          have e43 : a.eval (.tmp 43) = .string x43 := hV 43 (by simp [Op.operands]) (by kernel_rfl)
          have f43 : a.tmps.getD 43 undef = .string x43 := e43
          have g43 : a.tmps[43]?.getD undef = .string x43 := by rw [← Array.getD_eq_getD_getElem?]; exact e43
          have e46 : a.eval (.tmp 46) = .string tgr := hV 46 (by simp [Op.operands]) (by kernel_rfl)
          have f46 : a.tmps.getD 46 undef = .string tgr := e46
          have g46 : a.tmps[46]?.getD undef = .string tgr := by rw [← Array.getD_eq_getD_getElem?]; exact e46
          refine op_val (.string x47) ?_ hC (Below.refl _ _) (by intro d hd; cases hd; rfl)
          have q := HA47.out w2
          (clear hV hI hC; go_simp <;> (first | rfl | simp))
        case o48 =>
          intro Q a w2 hC hV hI
          have e47 : a.eval (.tmp 47) = .string x47 := hV 47 (by simp [Op.operands]) (by kernel_rfl)
          have f47 : a.tmps.getD 47 undef = .string x47 := e47
          have g47 : a.tmps[47]?.getD undef = .string x47 := by rw [← Array.getD_eq_getD_getElem?]; exact e47
          refine op_val (.string x48) ?_ hC (Below.refl _ _) (by intro d hd; cases hd; rfl)
          have q := HA48.out w2
          (clear hV hI hC; go_simp <;> (first | rfl | simp))
        case o49 =>
          intro Q a w2 hC hV hI
          have e1 : a.eval (.tmp 1) = .pointer (some ⟨w.heap.size, 0, none⟩) := (hI 1 (by simp [Op.operands]) (by kernel_rfl)).trans rfl
          have f1 : a.tmps.getD 1 undef = .pointer (some ⟨w.heap.size, 0, none⟩) := e1
          have g1 : a.tmps[1]?.getD undef = .pointer (some ⟨w.heap.size, 0, none⟩) := by rw [← Array.getD_eq_getD_getElem?]; exact e1
          refine op_val (.pointer (some ⟨w.heap.size, 9, none⟩)) ?_ hC (Below.refl _ _) (by intro d hd; cases hd; rfl)
          (clear hV hI hC; go_simp <;> (first | rfl | simp))
        case o50 =>
          intro Q a w2 hC hV hI
          have e49 : a.eval (.tmp 49) = .pointer (some ⟨w.heap.size, 9, none⟩) := hV 49 (by simp [Op.operands]) (by kernel_rfl)
          have f49 : a.tmps.getD 49 undef = .pointer (some ⟨w.heap.size, 9, none⟩) := e49
          have g49 : a.tmps[49]?.getD undef = .pointer (some ⟨w.heap.size, 9, none⟩) := by rw [← Array.getD_eq_getD_getElem?]; exact e49
          obtain ⟨d0, d1, d4, d5, d6, d7, d8, d9⟩ := KC.out w2 hC
          refine op_val (.string b) ?_ hC (Below.refl _ _) (by intro d hd; cases hd; rfl)
          (clear hV hI hC; go_simp <;> (first | rfl | simp))
        case o51 =>
          intro Q a w2 hC hV hI
          have e50 : a.eval (.tmp 50) = .string b := hV 50 (by simp [Op.operands, Call.operands]) (by kernel_rfl)
          have f50 : a.tmps.getD 50 undef = .string b := e50
          have g50 : a.tmps[50]?.getD undef = .string b := by rw [← Array.getD_eq_getD_getElem?]; exact e50
          refine op_val (.int .i64 (b.size : Int)) ?_ hC (Below.refl _ _) (by intro d hd; cases hd; rfl)
          (clear hV hI hC; go_simp <;> (first | rfl | simp))
        case o52 =>
          intro Q a w2 hC hV hI
          have e51 : a.eval (.tmp 51) = .int .i64 (b.size : Int) := hV 51 (by simp [Op.operands, Call.operands]) (by kernel_rfl)
          have f51 : a.tmps.getD 51 undef = .int .i64 (b.size : Int) := e51
          have g51 : a.tmps[51]?.getD undef = .int .i64 (b.size : Int) := by rw [← Array.getD_eq_getD_getElem?]; exact e51
          refine op_call (f := 16) (args := #[.int .i64 (b.size : Int)]) (R := fun v y => v = .string tb ∧ w2 = y) ?_ ((HBd.out w2).mono ?_) ?_
          · (clear hV hI hC; go_simp <;> (first | rfl | simp))
          · rintro e y ⟨rfl, rfl⟩; exact ⟨_, rfl, rfl, rfl⟩
          · rintro v y ⟨rfl, rfl⟩; exact ⟨hC, Below.refl _ _, by intro d hd; cases hd; rfl⟩
        case o53 =>
          intro Q a w2 hC hV hI
          have e48 : a.eval (.tmp 48) = .string x48 := hV 48 (by simp [Op.operands]) (by kernel_rfl)
          have f48 : a.tmps.getD 48 undef = .string x48 := e48
          have g48 : a.tmps[48]?.getD undef = .string x48 := by rw [← Array.getD_eq_getD_getElem?]; exact e48
          have e52 : a.eval (.tmp 52) = .string tb := hV 52 (by simp [Op.operands]) (by kernel_rfl)
          have f52 : a.tmps.getD 52 undef = .string tb := e52
          have g52 : a.tmps[52]?.getD undef = .string tb := by rw [← Array.getD_eq_getD_getElem?]; exact e52
          refine op_val (.string x53) ?_ hC (Below.refl _ _) (by intro d hd; cases hd; rfl)
          have q := HA53.out w2
          (clear hV hI hC; go_simp <;> (first | rfl | simp))
        case o54 =>
          intro Q a w2 hC hV hI
          have e53 : a.eval (.tmp 53) = .string x53 := hV 53 (by simp [Op.operands]) (by kernel_rfl)
          have f53 : a.tmps.getD 53 undef = .string x53 := e53
          have g53 : a.tmps[53]?.getD undef = .string x53 := by rw [← Array.getD_eq_getD_getElem?]; exact e53
          refine op_val (.string x54) ?_ hC (Below.refl _ _) (by intro d hd; cases hd; rfl)
          have q := HA54.out w2
          (clear hV hI hC; go_simp <;> (first | rfl | simp))
        case o55 =>
          intro Q a w2 hC hV hI
          have e1 : a.eval (.tmp 1) = .pointer (some ⟨w.heap.size, 0, none⟩) := (hI 1 (by simp [Op.operands]) (by kernel_rfl)).trans rfl
          have f1 : a.tmps.getD 1 undef = .pointer (some ⟨w.heap.size, 0, none⟩) := e1
          have g1 : a.tmps[1]?.getD undef = .pointer (some ⟨w.heap.size, 0, none⟩) := by rw [← Array.getD_eq_getD_getElem?]; exact e1
          refine op_val (.pointer (some ⟨w.heap.size, 1, none⟩)) ?_ hC (Below.refl _ _) (by intro d hd; cases hd; rfl)
          (clear hV hI hC; go_simp <;> (first | rfl | simp))
        case o56 =>
          intro Q a w2 hC hV hI
          have e55 : a.eval (.tmp 55) = .pointer (some ⟨w.heap.size, 1, none⟩) := hV 55 (by simp [Op.operands]) (by kernel_rfl)
          have f55 : a.tmps.getD 55 undef = .pointer (some ⟨w.heap.size, 1, none⟩) := e55
          have g55 : a.tmps[55]?.getD undef = .pointer (some ⟨w.heap.size, 1, none⟩) := by rw [← Array.getD_eq_getD_getElem?]; exact e55
          obtain ⟨d0, d1, d4, d5, d6, d7, d8, d9⟩ := KC.out w2 hC
          refine op_val (.string p) ?_ hC (Below.refl _ _) (by intro d hd; cases hd; rfl)
          (clear hV hI hC; go_simp <;> (first | rfl | simp))
        case o57 =>
          intro Q a w2 hC hV hI
          have e54 : a.eval (.tmp 54) = .string x54 := hV 54 (by simp [Op.operands]) (by kernel_rfl)
          have f54 : a.tmps.getD 54 undef = .string x54 := e54
          have g54 : a.tmps[54]?.getD undef = .string x54 := by rw [← Array.getD_eq_getD_getElem?]; exact e54
          have e56 : a.eval (.tmp 56) = .string p := hV 56 (by simp [Op.operands]) (by kernel_rfl)
          have f56 : a.tmps.getD 56 undef = .string p := e56
          have g56 : a.tmps[56]?.getD undef = .string p := by rw [← Array.getD_eq_getD_getElem?]; exact e56
          refine op_val (.string x57) ?_ hC (Below.refl _ _) (by intro d hd; cases hd; rfl)
          have q := HA57.out w2
          (clear hV hI hC; go_simp <;> (first | rfl | simp))
        case o5 =>
          intro Q a w2 hC hV hI
          have e57 : a.eval (.tmp 57) = .string x57 := hV 57 (by simp [Op.operands]) (by kernel_rfl)
          have f57 : a.tmps.getD 57 undef = .string x57 := e57
          have g57 : a.tmps[57]?.getD undef = .string x57 := by rw [← Array.getD_eq_getD_getElem?]; exact e57
          refine op_val (.string x57) ?_ hC (Below.refl _ _) (by intro d hd; cases hd; rfl)
          (clear hV hI hC; go_simp <;> (first | rfl | simp))
      case hend =>
        intro f w2 hC hall
        have E2 := Lib.hid (E1.out.below hC zb)
        have B2 := Lib.hid (btE B1.out hC)
        clear hC KC E1 B1 HA20 HA22 HA23 HA27 HA28 HA32 HA33 HA37 HA38 HA42 HA43 HA47 HA48 HA53 HA54 HA57
        simp only [List.forall_mem_cons] at hall
        obtain ⟨h15, h16, h17, h18, h19, h20, h21, h22, h23, h24, h25, h26, h27, h28, h29, h30, h31, h32, h33, h34, h35, h36, h37, h38, h39, h40, h41, h42, h43, h44, h45, h46, h47, h48, h49, h50, h51, h52, h53, h54, h55, h56, h57, h5, _⟩ := hall
        clear h15
        replace h16 : f 16 = .pointer (some ⟨w.heap.size, 0, none⟩) := h16 16 rfl
        replace h17 : f 17 = .int .i64 3 := h17 17 rfl
        clear h18
        replace h19 : f 19 = .string kc := h19 19 rfl
        replace h20 : f 20 = .string x20 := h20 20 rfl
        replace h21 : f 21 = .string tm := h21 21 rfl
        replace h22 : f 22 = .string x22 := h22 22 rfl
        replace h23 : f 23 = .string x23 := h23 23 rfl
        replace h24 : f 24 = .pointer (some ⟨w.heap.size, 4, none⟩) := h24 24 rfl
        replace h25 : f 25 = .int .i64 u := h25 25 rfl
        replace h26 : f 26 = .string tu := h26 26 rfl
        replace h27 : f 27 = .string x27 := h27 27 rfl
        replace h28 : f 28 = .string x28 := h28 28 rfl
        replace h29 : f 29 = .pointer (some ⟨w.heap.size, 5, none⟩) := h29 29 rfl
        replace h30 : f 30 = .int .i64 g := h30 30 rfl
        replace h31 : f 31 = .string tg := h31 31 rfl
        replace h32 : f 32 = .string x32 := h32 32 rfl
        replace h33 : f 33 = .string x33 := h33 33 rfl
        replace h34 : f 34 = .pointer (some ⟨w.heap.size, 6, none⟩) := h34 34 rfl
        replace h35 : f 35 = .int .i64 t := h35 35 rfl
        replace h36 : f 36 = .string tt := h36 36 rfl
        replace h37 : f 37 = .string x37 := h37 37 rfl
        replace h38 : f 38 = .string x38 := h38 38 rfl
        replace h39 : f 39 = .pointer (some ⟨w.heap.size, 7, none⟩) := h39 39 rfl
        replace h40 : f 40 = .string us := h40 40 rfl
        replace h41 : f 41 = .string tus := h41 41 rfl
        replace h42 : f 42 = .string x42 := h42 42 rfl
        replace h43 : f 43 = .string x43 := h43 43 rfl
        replace h44 : f 44 = .pointer (some ⟨w.heap.size, 8, none⟩) := h44 44 rfl
        replace h45 : f 45 = .string gr := h45 45 rfl
        replace h46 : f 46 = .string tgr := h46 46 rfl
        replace h47 : f 47 = .string x47 := h47 47 rfl
        replace h48 : f 48 = .string x48 := h48 48 rfl
        replace h49 : f 49 = .pointer (some ⟨w.heap.size, 9, none⟩) := h49 49 rfl
        replace h50 : f 50 = .string b := h50 50 rfl
        replace h51 : f 51 = .int .i64 (b.size : Int) := h51 51 rfl
        replace h52 : f 52 = .string tb := h52 52 rfl
        replace h53 : f 53 = .string x53 := h53 53 rfl
        replace h54 : f 54 = .string x54 := h54 54 rfl
        replace h55 : f 55 = .pointer (some ⟨w.heap.size, 1, none⟩) := h55 55 rfl
        replace h56 : f 56 = .string p := h56 56 rfl
        replace h57 : f 57 = .string x57 := h57 57 rfl
        replace h5 : f 5 = .string x57 := h5 5 rfl
        simp only [putAll, Act.put, List.setIfInBounds_toArray, List.set_cons_succ, List.set_cons_zero, h16, h17, h19, h20, h21, h22, h23, h24, h25, h26, h27, h28, h29, h30, h31, h32, h33, h34, h35, h36, h37, h38, h39, h40, h41, h42, h43, h44, h45, h46, h47, h48, h49, h50, h51, h52, h53, h54, h55, h56, h57, h5]
        generalize f 15 = v15
        generalize f 18 = v18
        clear h16 h17 h19 h20 h21 h22 h23 h24 h25 h26 h27 h28 h29 h30 h31 h32 h33 h34 h35 h36 h37 h38 h39 h40 h41 h42 h43 h44 h45 h46 h47 h48 h49 h50 h51 h52 h53 h54 h55 h56 h57 h5
        obtain ⟨c0, c1, c2, c3, c4, c5, c6, c7, c8, c9⟩ := E2.out.zero
        clear c0 c1 c3 c4 c5 c6 c7 c8 c9
        by_cases hl0 : l.size = 0
        · have q := empty_t hl0
          have HF := Lib.hid (HZ.out hl0)
          clear hl0 HZ HL
          go_wp2_with fail
          go_ret
          exact ⟨ret_str HF.out.symm, B2.out⟩
        · have q := empty_f hl0
          have HF := Lib.hid (HL.out hl0)
          clear hl0 HZ HL
          go_wp2_with fail
          go_ret
          exact ⟨ret_str HF.out.symm, B2.out⟩
end Go.Proofs.YtlbkojiengofeabDoor
