/- Contract of impl.PutHead. -/
import Derived.Test.YtkpdeeembnjmnabDoorPutF
namespace Go.Proofs.YtkpdeeembnjmnabDoor
open Go.ChangeShapes Go.WideShapes Go.ChangeAt Go.RowKit Go.Deep

theorem put_t (g k x : Nat) (F : List (List UInt8)) (s : ByteArray) (w : World) (hk : k < 15) (hx : widths[k]? = some x) (hf : F[k]? = some (nuls x)) (hs : s.size ≤ x) (hF : FW w) (hB : BlkF w g F) :
    Calls Tryd.prog 15 #[.pointer (some ⟨g, 0, none⟩), .int .i64 k, .string s] w fun e w' => e = .returned (.tuple #[]) ∧ BlkF w' g (F.set k (fillv s x).data.toList) ∧ w.heap.size ≤ w'.heap.size ∧ ∀ B, B ≤ g → Below B w w' := by
  refine (put_f g k x F s (nuls x) w hk hx hf hs hF hB).mono ?_
  obtain ⟨y, hy, y1, y2, _⟩ := widths_at hk
  obtain rfl : y = x := by rw [hy] at hx; exact Option.some.inj hx
  rw [fill_short hs (by omega)]
  rintro e w' ⟨rfl, h1, h2, h3⟩
  rw [show (nuls y).drop s.size = nuls (y - s.size) from by simp [nuls]] at h1
  exact ⟨rfl, h1, by omega, h3⟩
def F0 : List (List UInt8) := widths.map nuls ++ [nuls 12]
theorem F0_wf : WF F0 := by
  show F0.map List.length = widths ++ [12]
  decide
theorem F0_flat : flat F0 = zeros512 := by decide +kernel
/-- The numbers of an entry that fits have their digits. -/
theorem fits_nums {e : Ent} (h : fitsv e = true) : (0 ≤ e.mode ∧ e.mode ≤ 4095) ∧ (0 ≤ e.uid ∧ e.uid ≤ 2097151) ∧ (0 ≤ e.gid ∧ e.gid ≤ 2097151) ∧ (0 ≤ e.time ∧ e.time ≤ 8589934591) ∧ e.link.size ≤ 100 ∧ e.user.size ≤ 32 ∧ e.group.size ≤ 32 ∧ splitOk e.path = true := by
  simp only [fitsv, entOkv, Bool.and_eq_true, decide_eq_true_eq, inB, whov] at h
  exact ⟨by omega, by omega, by omega, by omega, by omega, by omega, by omega, h.1.1.1.1.2⟩
theorem split_sizes {s : ByteArray} (h : splitOk s = true) : (splitN s).size ≤ 100 ∧ (splitP s).size ≤ 155 := by
  simp only [splitOk, Bool.and_eq_true, Bool.or_eq_true, decide_eq_true_eq] at h
  by_cases hs : s.size ≤ 100
  · obtain ⟨_, h2, h3⟩ := split_short h.1 hs
    rw [h2, h3]
    exact ⟨hs, by decide⟩
  · have hl : slashv s ≤ 155 := h.2.resolve_left hs
    obtain ⟨_, h2, h3⟩ := split_long h.1 (by omega) hl
    obtain ⟨_, hge, hlt, _⟩ := slash_there h.1 (by omega)
    rw [h2, h3, ByteArray.size_extract, ByteArray.size_extract]
    omega
theorem head_sum {X Y : List UInt8} (hX : X.length = 148) (hY : Y.length = 356) : headSumv ⟨(X ++ nuls 8 ++ Y).toArray⟩ = sumv X + 256 + sumv Y := by
  have hl : (X ++ nuls 8 ++ Y).length = 512 := by simp [nuls, hX, hY]
  rw [headSumv, if_neg (by rw [ba_size, hl]; omega)]
  have e1 : ((X ++ nuls 8 ++ Y).take 512) = X ++ nuls 8 ++ Y := List.take_of_length_le (by omega)
  have e2 : (X ++ nuls 8 ++ Y).take 148 = X := by rw [List.append_assoc, ← hX]; simp
  have e3 : (X ++ nuls 8 ++ Y).drop 156 = Y := by
    have : (X ++ nuls 8).length = 156 := by simp [nuls, hX]
    rw [← this]; simp
  show sumv ((X ++ nuls 8 ++ Y).take 148) + 256 + sumv (((X ++ nuls 8 ++ Y).take 512).drop 156) = _
  rw [e1, e2, e3]

set_option maxHeartbeats 6400000 in
set_option maxRecDepth 8000 in
theorem putHead_yes (k : Int) (p l : ByteArray) (m u g t : Int) (us gr b fl : ByteArray) (sz : Int) (w : World) (hp : p.size ≤ 4194304) (hl : l.size ≤ 4194304) (hus : us.size ≤ 4194304) (hgr : gr.size ≤ 4194304) (hfit : fitsv ⟨k, p, l, m, u, g, t, us, gr, b⟩ = true) (hfl : fl.size = 1) (hs : 0 ≤ sz ∧ sz ≤ 3000) (hT : Tabs w) (hF : FW w) :
    Calls Tryd.prog 7 #[.agg #[.int .i64 k, .string p, .string l, .int .i64 m, .int .i64 u, .int .i64 g, .int .i64 t, .string us, .string gr, .string b], .string fl, .int .i64 sz] w fun e w' => e = .returned (.string (headv ⟨k, p, l, m, u, g, t, us, gr, b⟩ (splitN p) (splitP p) fl sz magicU)) ∧ Below w.heap.size w w' := by
  have H1 := Lib.hid (fun w => fits_impl k p l m u g t us gr b w hp hl hus hgr)
  rw [hfit] at H1
  have H2 := Lib.hid (fun w => upTo_any sz 3000 w)
  rw [inB_t hs] at H2
  have H3 := Lib.hid (fun w => split_impl p w hp)
  obtain ⟨nm, nu, ng, nt, zl, zus, zgr, hso⟩ := fits_nums hfit
  simp only at nm nu ng nt zl zus zgr hso
  obtain ⟨zn, zp⟩ := split_sizes hso
  have HA : Hid ((headA ⟨k, p, l, m, u, g, t, us, gr, b⟩ (splitN p) sz).data.toList = (fillv (splitN p) 100).data.toList ++ (octz m 8).data.toList ++ (octz u 8).data.toList ++ (octz g 8).data.toList ++ (octz sz 12).data.toList ++ (octz t 12).data.toList) := Lib.hid (by simp [headA])
  have HB : Hid ((headB ⟨k, p, l, m, u, g, t, us, gr, b⟩ (splitP p) fl magicU).data.toList = fl.data.toList ++ (fillv l 100).data.toList ++ magicU.data.toList ++ (fillv us 32).data.toList ++ (fillv gr 32).data.toList ++ (octz 0 8).data.toList ++ (octz 0 8).data.toList ++ (fillv (splitP p) 155).data.toList ++ nuls 12) := Lib.hid (by simp [headB, nulv])
  have HV : Hid (headv ⟨k, p, l, m, u, g, t, us, gr, b⟩ (splitN p) (splitP p) fl sz magicU = headA ⟨k, p, l, m, u, g, t, us, gr, b⟩ (splitN p) sz ++ (putOctv (sumv (headA ⟨k, p, l, m, u, g, t, us, gr, b⟩ (splitN p) sz).data.toList + 256 + sumv (headB ⟨k, p, l, m, u, g, t, us, gr, b⟩ (splitP p) fl magicU).data.toList) 6).1 ++ ⟨#[0, 32]⟩ ++ headB ⟨k, p, l, m, u, g, t, us, gr, b⟩ (splitP p) fl magicU) := Lib.hid rfl
  generalize headv ⟨k, p, l, m, u, g, t, us, gr, b⟩ (splitN p) (splitP p) fl sz magicU = r at HV
  generalize headA ⟨k, p, l, m, u, g, t, us, gr, b⟩ (splitN p) sz = hA at HA HV
  generalize headB ⟨k, p, l, m, u, g, t, us, gr, b⟩ (splitP p) fl magicU = hB at HB HV
  generalize splitN p = sn at *
  generalize splitP p = sp at *
  generalize splitOk p = so at *
  have hfl' : (fl.size : Int) = 1 := by omega
  have hz := fun w => zero_blk w
  have HF := Lib.hid hF
  have HT := Lib.hid hT
  clear hF hT hfit hp hl hus hgr hfl
  go_enter Tryd.func7, Tryd.ntmps7
  go_wp2_with fail
  refine (H1.out _).mono ?_
  rintro e w1 ⟨rfl, hb⟩
  obtain ⟨k1, bb1, z1⟩ := one_new (e1 := ⟨k, p, l, m, u, g, t, us, gr, b⟩) hb
  have E1 := Lib.hid k1
  have B1 := Lib.hid bb1
  clear hb k1 bb1 H1
  go_wp2_with fail
  refine (H2.out _).mono ?_
  rintro e w2 ⟨rfl, rfl⟩
  have K0 := Lib.hid (Blk.new w1 (flat F0) (by rw [F0_flat]; exact List.length_replicate))
  rw [F0_flat] at K0
  generalize (Lib.byteCells zeros512).toArray = Z at hz K0
  have D0 := Lib.hid ((Below.refl w1.heap.size w1).alloc (Nat.le_refl _) (.cells Z 36))
  obtain ⟨c0, c1, c2, c3, c4, c5, c6, c7, c8, c9⟩ := (E1.out.below D0.out (by omega)).zero
  have T1 := Lib.hid (HT.out.below B1.out)
  have F1 := Lib.hid (HF.out.below B1.out)
  have hE : w.heap.size < w1.heap.size := by omega
  go_wp2_with fail
  refine (H3.out _).mono ?_
  rintro e w2 ⟨rfl, hb⟩
  have K := Lib.hid (show BlkF w2 w1.heap.size [nuls 100, nuls 8, nuls 8, nuls 8, nuls 12, nuls 12, nuls 8, nuls 1, nuls 100, nuls 8, nuls 32, nuls 32, nuls 8, nuls 8, nuls 155, nuls 12] from ⟨F0_wf, by show Blk w2 _ (flat F0); rw [F0_flat]; exact K0.out.below hb (by simp)⟩)
  have D := Lib.hid (D0.out.trans (hb.mono (by simp)))
  clear hb K0 D0 HF HT H2 H3 c0 c1 c2 c3 c4 c5 c6 c7 c8 c9

  go_wp2_with fail
  refine (put_t w1.heap.size 0 100 [nuls 100, nuls 8, nuls 8, nuls 8, nuls 12, nuls 12, nuls 8, nuls 1, nuls 100, nuls 8, nuls 32, nuls 32, nuls 8, nuls 8, nuls 155, nuls 12] sn _ (by omega) rfl rfl (by omega) (F1.out.below D.out) K.out).mono ?_
  rintro e w' ⟨rfl, hk, -, hb⟩
  replace D := Lib.hid (D.out.trans (hb _ (Nat.le_refl _)))
  replace K := Lib.hid (show BlkF w' _ [(fillv sn 100).data.toList, nuls 8, nuls 8, nuls 8, nuls 12, nuls 12, nuls 8, nuls 1, nuls 100, nuls 8, nuls 32, nuls 32, nuls 8, nuls 8, nuls 155, nuls 12] from hk)
  clear hk hb
  obtain ⟨_, _, _, c3, _, _, _, _, _, _⟩ := (E1.out.below D.out (by omega)).zero
  go_wp2_with fail
  refine (putNum_f w1.heap.size 1 8 [(fillv sn 100).data.toList, nuls 8, nuls 8, nuls 8, nuls 12, nuls 12, nuls 8, nuls 1, nuls 100, nuls 8, nuls 32, nuls 32, nuls 8, nuls 8, nuls 155, nuls 12] m _ (by omega) rfl (by omega) (by omega) (by omega) (by have : (8 : Nat) ^ (8 - 1) = 2097152 := (by decide); omega) rfl (T1.out.below D.out) (F1.out.below D.out) K.out).mono ?_
  rintro e w' ⟨rfl, hk, -, hb⟩
  replace D := Lib.hid (D.out.trans (hb _ (Nat.le_refl _)))
  replace K := Lib.hid (show BlkF w' _ [(fillv sn 100).data.toList, (octz m 8).data.toList, nuls 8, nuls 8, nuls 12, nuls 12, nuls 8, nuls 1, nuls 100, nuls 8, nuls 32, nuls 32, nuls 8, nuls 8, nuls 155, nuls 12] from hk)
  clear hk hb c3
  obtain ⟨_, _, _, _, c4, _, _, _, _, _⟩ := (E1.out.below D.out (by omega)).zero
  go_wp2_with fail
  refine (putNum_f w1.heap.size 2 8 [(fillv sn 100).data.toList, (octz m 8).data.toList, nuls 8, nuls 8, nuls 12, nuls 12, nuls 8, nuls 1, nuls 100, nuls 8, nuls 32, nuls 32, nuls 8, nuls 8, nuls 155, nuls 12] u _ (by omega) rfl (by omega) (by omega) (by omega) (by have : (8 : Nat) ^ (8 - 1) = 2097152 := (by decide); omega) rfl (T1.out.below D.out) (F1.out.below D.out) K.out).mono ?_
  rintro e w' ⟨rfl, hk, -, hb⟩
  replace D := Lib.hid (D.out.trans (hb _ (Nat.le_refl _)))
  replace K := Lib.hid (show BlkF w' _ [(fillv sn 100).data.toList, (octz m 8).data.toList, (octz u 8).data.toList, nuls 8, nuls 12, nuls 12, nuls 8, nuls 1, nuls 100, nuls 8, nuls 32, nuls 32, nuls 8, nuls 8, nuls 155, nuls 12] from hk)
  clear hk hb c4
  obtain ⟨_, _, _, _, _, c5, _, _, _, _⟩ := (E1.out.below D.out (by omega)).zero
  go_wp2_with fail
  refine (putNum_f w1.heap.size 3 8 [(fillv sn 100).data.toList, (octz m 8).data.toList, (octz u 8).data.toList, nuls 8, nuls 12, nuls 12, nuls 8, nuls 1, nuls 100, nuls 8, nuls 32, nuls 32, nuls 8, nuls 8, nuls 155, nuls 12] g _ (by omega) rfl (by omega) (by omega) (by omega) (by have : (8 : Nat) ^ (8 - 1) = 2097152 := (by decide); omega) rfl (T1.out.below D.out) (F1.out.below D.out) K.out).mono ?_
  rintro e w' ⟨rfl, hk, -, hb⟩
  replace D := Lib.hid (D.out.trans (hb _ (Nat.le_refl _)))
  replace K := Lib.hid (show BlkF w' _ [(fillv sn 100).data.toList, (octz m 8).data.toList, (octz u 8).data.toList, (octz g 8).data.toList, nuls 12, nuls 12, nuls 8, nuls 1, nuls 100, nuls 8, nuls 32, nuls 32, nuls 8, nuls 8, nuls 155, nuls 12] from hk)
  clear hk hb c5
  go_wp2_with fail
  refine (putNum_f w1.heap.size 4 12 [(fillv sn 100).data.toList, (octz m 8).data.toList, (octz u 8).data.toList, (octz g 8).data.toList, nuls 12, nuls 12, nuls 8, nuls 1, nuls 100, nuls 8, nuls 32, nuls 32, nuls 8, nuls 8, nuls 155, nuls 12] sz _ (by omega) rfl (by omega) (by omega) (by omega) (by have : (8 : Nat) ^ (12 - 1) = 8589934592 := (by decide); omega) rfl (T1.out.below D.out) (F1.out.below D.out) K.out).mono ?_
  rintro e w' ⟨rfl, hk, -, hb⟩
  replace D := Lib.hid (D.out.trans (hb _ (Nat.le_refl _)))
  replace K := Lib.hid (show BlkF w' _ [(fillv sn 100).data.toList, (octz m 8).data.toList, (octz u 8).data.toList, (octz g 8).data.toList, (octz sz 12).data.toList, nuls 12, nuls 8, nuls 1, nuls 100, nuls 8, nuls 32, nuls 32, nuls 8, nuls 8, nuls 155, nuls 12] from hk)
  clear hk hb
  obtain ⟨_, _, _, _, _, _, c6, _, _, _⟩ := (E1.out.below D.out (by omega)).zero
  go_wp2_with fail
  refine (putNum_f w1.heap.size 5 12 [(fillv sn 100).data.toList, (octz m 8).data.toList, (octz u 8).data.toList, (octz g 8).data.toList, (octz sz 12).data.toList, nuls 12, nuls 8, nuls 1, nuls 100, nuls 8, nuls 32, nuls 32, nuls 8, nuls 8, nuls 155, nuls 12] t _ (by omega) rfl (by omega) (by omega) (by omega) (by have : (8 : Nat) ^ (12 - 1) = 8589934592 := (by decide); omega) rfl (T1.out.below D.out) (F1.out.below D.out) K.out).mono ?_
  rintro e w' ⟨rfl, hk, -, hb⟩
  replace D := Lib.hid (D.out.trans (hb _ (Nat.le_refl _)))
  replace K := Lib.hid (show BlkF w' _ [(fillv sn 100).data.toList, (octz m 8).data.toList, (octz u 8).data.toList, (octz g 8).data.toList, (octz sz 12).data.toList, (octz t 12).data.toList, nuls 8, nuls 1, nuls 100, nuls 8, nuls 32, nuls 32, nuls 8, nuls 8, nuls 155, nuls 12] from hk)
  clear hk hb c6
  go_wp2_with fail
  refine (put_t w1.heap.size 7 1 [(fillv sn 100).data.toList, (octz m 8).data.toList, (octz u 8).data.toList, (octz g 8).data.toList, (octz sz 12).data.toList, (octz t 12).data.toList, nuls 8, nuls 1, nuls 100, nuls 8, nuls 32, nuls 32, nuls 8, nuls 8, nuls 155, nuls 12] fl _ (by omega) rfl rfl (by omega) (F1.out.below D.out) K.out).mono ?_
  rintro e w' ⟨rfl, hk, -, hb⟩
  replace D := Lib.hid (D.out.trans (hb _ (Nat.le_refl _)))
  replace K := Lib.hid (show BlkF w' _ [(fillv sn 100).data.toList, (octz m 8).data.toList, (octz u 8).data.toList, (octz g 8).data.toList, (octz sz 12).data.toList, (octz t 12).data.toList, nuls 8, (fillv fl 1).data.toList, nuls 100, nuls 8, nuls 32, nuls 32, nuls 8, nuls 8, nuls 155, nuls 12] from hk)
  clear hk hb
  obtain ⟨_, _, c2, _, _, _, _, _, _, _⟩ := (E1.out.below D.out (by omega)).zero
  go_wp2_with fail
  refine (put_t w1.heap.size 8 100 [(fillv sn 100).data.toList, (octz m 8).data.toList, (octz u 8).data.toList, (octz g 8).data.toList, (octz sz 12).data.toList, (octz t 12).data.toList, nuls 8, (fillv fl 1).data.toList, nuls 100, nuls 8, nuls 32, nuls 32, nuls 8, nuls 8, nuls 155, nuls 12] l _ (by omega) rfl rfl (by omega) (F1.out.below D.out) K.out).mono ?_
  rintro e w' ⟨rfl, hk, -, hb⟩
  replace D := Lib.hid (D.out.trans (hb _ (Nat.le_refl _)))
  replace K := Lib.hid (show BlkF w' _ [(fillv sn 100).data.toList, (octz m 8).data.toList, (octz u 8).data.toList, (octz g 8).data.toList, (octz sz 12).data.toList, (octz t 12).data.toList, nuls 8, (fillv fl 1).data.toList, (fillv l 100).data.toList, nuls 8, nuls 32, nuls 32, nuls 8, nuls 8, nuls 155, nuls 12] from hk)
  clear hk hb c2
  go_wp2_with fail
  refine (put_t w1.heap.size 9 8 [(fillv sn 100).data.toList, (octz m 8).data.toList, (octz u 8).data.toList, (octz g 8).data.toList, (octz sz 12).data.toList, (octz t 12).data.toList, nuls 8, (fillv fl 1).data.toList, (fillv l 100).data.toList, nuls 8, nuls 32, nuls 32, nuls 8, nuls 8, nuls 155, nuls 12] magicU _ (by omega) rfl rfl (by decide) (F1.out.below D.out) K.out).mono ?_
  rintro e w' ⟨rfl, hk, -, hb⟩
  replace D := Lib.hid (D.out.trans (hb _ (Nat.le_refl _)))
  replace K := Lib.hid (show BlkF w' _ [(fillv sn 100).data.toList, (octz m 8).data.toList, (octz u 8).data.toList, (octz g 8).data.toList, (octz sz 12).data.toList, (octz t 12).data.toList, nuls 8, (fillv fl 1).data.toList, (fillv l 100).data.toList, (fillv magicU 8).data.toList, nuls 32, nuls 32, nuls 8, nuls 8, nuls 155, nuls 12] from hk)
  clear hk hb
  obtain ⟨_, _, _, _, _, _, _, c7, _, _⟩ := (E1.out.below D.out (by omega)).zero
  go_wp2_with fail
  refine (put_t w1.heap.size 10 32 [(fillv sn 100).data.toList, (octz m 8).data.toList, (octz u 8).data.toList, (octz g 8).data.toList, (octz sz 12).data.toList, (octz t 12).data.toList, nuls 8, (fillv fl 1).data.toList, (fillv l 100).data.toList, (fillv magicU 8).data.toList, nuls 32, nuls 32, nuls 8, nuls 8, nuls 155, nuls 12] us _ (by omega) rfl rfl (by omega) (F1.out.below D.out) K.out).mono ?_
  rintro e w' ⟨rfl, hk, -, hb⟩
  replace D := Lib.hid (D.out.trans (hb _ (Nat.le_refl _)))
  replace K := Lib.hid (show BlkF w' _ [(fillv sn 100).data.toList, (octz m 8).data.toList, (octz u 8).data.toList, (octz g 8).data.toList, (octz sz 12).data.toList, (octz t 12).data.toList, nuls 8, (fillv fl 1).data.toList, (fillv l 100).data.toList, (fillv magicU 8).data.toList, (fillv us 32).data.toList, nuls 32, nuls 8, nuls 8, nuls 155, nuls 12] from hk)
  clear hk hb c7
  obtain ⟨_, _, _, _, _, _, _, _, c8, _⟩ := (E1.out.below D.out (by omega)).zero
  go_wp2_with fail
  refine (put_t w1.heap.size 11 32 [(fillv sn 100).data.toList, (octz m 8).data.toList, (octz u 8).data.toList, (octz g 8).data.toList, (octz sz 12).data.toList, (octz t 12).data.toList, nuls 8, (fillv fl 1).data.toList, (fillv l 100).data.toList, (fillv magicU 8).data.toList, (fillv us 32).data.toList, nuls 32, nuls 8, nuls 8, nuls 155, nuls 12] gr _ (by omega) rfl rfl (by omega) (F1.out.below D.out) K.out).mono ?_
  rintro e w' ⟨rfl, hk, -, hb⟩
  replace D := Lib.hid (D.out.trans (hb _ (Nat.le_refl _)))
  replace K := Lib.hid (show BlkF w' _ [(fillv sn 100).data.toList, (octz m 8).data.toList, (octz u 8).data.toList, (octz g 8).data.toList, (octz sz 12).data.toList, (octz t 12).data.toList, nuls 8, (fillv fl 1).data.toList, (fillv l 100).data.toList, (fillv magicU 8).data.toList, (fillv us 32).data.toList, (fillv gr 32).data.toList, nuls 8, nuls 8, nuls 155, nuls 12] from hk)
  clear hk hb c8
  go_wp2_with fail
  refine (putNum_f w1.heap.size 12 8 [(fillv sn 100).data.toList, (octz m 8).data.toList, (octz u 8).data.toList, (octz g 8).data.toList, (octz sz 12).data.toList, (octz t 12).data.toList, nuls 8, (fillv fl 1).data.toList, (fillv l 100).data.toList, (fillv magicU 8).data.toList, (fillv us 32).data.toList, (fillv gr 32).data.toList, nuls 8, nuls 8, nuls 155, nuls 12] 0 _ (by omega) rfl (by omega) (by omega) (by omega) (by decide) rfl (T1.out.below D.out) (F1.out.below D.out) K.out).mono ?_
  rintro e w' ⟨rfl, hk, -, hb⟩
  replace D := Lib.hid (D.out.trans (hb _ (Nat.le_refl _)))
  replace K := Lib.hid (show BlkF w' _ [(fillv sn 100).data.toList, (octz m 8).data.toList, (octz u 8).data.toList, (octz g 8).data.toList, (octz sz 12).data.toList, (octz t 12).data.toList, nuls 8, (fillv fl 1).data.toList, (fillv l 100).data.toList, (fillv magicU 8).data.toList, (fillv us 32).data.toList, (fillv gr 32).data.toList, (octz 0 8).data.toList, nuls 8, nuls 155, nuls 12] from hk)
  clear hk hb
  go_wp2_with fail
  refine (putNum_f w1.heap.size 13 8 [(fillv sn 100).data.toList, (octz m 8).data.toList, (octz u 8).data.toList, (octz g 8).data.toList, (octz sz 12).data.toList, (octz t 12).data.toList, nuls 8, (fillv fl 1).data.toList, (fillv l 100).data.toList, (fillv magicU 8).data.toList, (fillv us 32).data.toList, (fillv gr 32).data.toList, (octz 0 8).data.toList, nuls 8, nuls 155, nuls 12] 0 _ (by omega) rfl (by omega) (by omega) (by omega) (by decide) rfl (T1.out.below D.out) (F1.out.below D.out) K.out).mono ?_
  rintro e w' ⟨rfl, hk, -, hb⟩
  replace D := Lib.hid (D.out.trans (hb _ (Nat.le_refl _)))
  replace K := Lib.hid (show BlkF w' _ [(fillv sn 100).data.toList, (octz m 8).data.toList, (octz u 8).data.toList, (octz g 8).data.toList, (octz sz 12).data.toList, (octz t 12).data.toList, nuls 8, (fillv fl 1).data.toList, (fillv l 100).data.toList, (fillv magicU 8).data.toList, (fillv us 32).data.toList, (fillv gr 32).data.toList, (octz 0 8).data.toList, (octz 0 8).data.toList, nuls 155, nuls 12] from hk)
  clear hk hb
  go_wp2_with fail
  refine (put_t w1.heap.size 14 155 [(fillv sn 100).data.toList, (octz m 8).data.toList, (octz u 8).data.toList, (octz g 8).data.toList, (octz sz 12).data.toList, (octz t 12).data.toList, nuls 8, (fillv fl 1).data.toList, (fillv l 100).data.toList, (fillv magicU 8).data.toList, (fillv us 32).data.toList, (fillv gr 32).data.toList, (octz 0 8).data.toList, (octz 0 8).data.toList, nuls 155, nuls 12] sp _ (by omega) rfl rfl (by omega) (F1.out.below D.out) K.out).mono ?_
  rintro e w' ⟨rfl, hk, -, hb⟩
  replace D := Lib.hid (D.out.trans (hb _ (Nat.le_refl _)))
  replace K := Lib.hid (show BlkF w' _ [(fillv sn 100).data.toList, (octz m 8).data.toList, (octz u 8).data.toList, (octz g 8).data.toList, (octz sz 12).data.toList, (octz t 12).data.toList, nuls 8, (fillv fl 1).data.toList, (fillv l 100).data.toList, (fillv magicU 8).data.toList, (fillv us 32).data.toList, (fillv gr 32).data.toList, (octz 0 8).data.toList, (octz 0 8).data.toList, (fillv sp 155).data.toList, nuls 12] from hk)
  clear hk hb
  have e7 : fillv fl 1 = fl := by rw [fillv, if_pos (.inr (by omega))]
  have e9 : fillv magicU 8 = magicU := by decide
  replace K := Lib.hid (show BlkF _ _ [(fillv sn 100).data.toList, (octz m 8).data.toList, (octz u 8).data.toList, (octz g 8).data.toList, (octz sz 12).data.toList, (octz t 12).data.toList, nuls 8, fl.data.toList, (fillv l 100).data.toList, magicU.data.toList, (fillv us 32).data.toList, (fillv gr 32).data.toList, (octz 0 8).data.toList, (octz 0 8).data.toList, (fillv sp 155).data.toList, nuls 12] by have h := K.out; rw [e7, e9] at h; exact h)
  clear e7 e9
  have hc := K.out.2.conv
  have hKl := K.out.2.1
  obtain ⟨X, hX⟩ : ∃ X, X = flat [(fillv sn 100).data.toList, (octz m 8).data.toList, (octz u 8).data.toList, (octz g 8).data.toList, (octz sz 12).data.toList, (octz t 12).data.toList, nuls 8, fl.data.toList, (fillv l 100).data.toList, magicU.data.toList, (fillv us 32).data.toList, (fillv gr 32).data.toList, (octz 0 8).data.toList, (octz 0 8).data.toList, (fillv sp 155).data.toList, nuls 12] := ⟨_, rfl⟩
  rw [← hX] at hc hKl
  have HS := Lib.hid (fun w hT hF => sumText_any ⟨X.toArray⟩ w (by rw [ba_size]; omega) hT hF)
  have lens := K.out.1
  simp only [WF, List.map_cons, List.map_nil, widths, List.cons_append, List.nil_append, List.cons.injEq] at lens
  have lA : hA.data.toList.length = 148 := by
    rw [HA.out]
    simp only [List.length_append]
    omega
  have lB : hB.data.toList.length = 356 := by
    rw [HB.out]
    simp only [List.length_append]
    omega
  have HXe : Hid (headSumv ⟨X.toArray⟩ = sumv hA.data.toList + 256 + sumv hB.data.toList) := Lib.hid (by
    rw [← head_sum lA lB, hX, HA.out, HB.out]
    simp [flat])
  rw [HXe.out] at HS
  have bd := headSum_bd ⟨X.toArray⟩
  rw [HXe.out] at bd
  have bA := sumv_bd hA.data.toList
  have bB := sumv_bd hB.data.toList
  have bs : 0 ≤ sumv hA.data.toList + 256 + sumv hB.data.toList := by omega
  generalize sumv hA.data.toList + 256 + sumv hB.data.toList = sm at HS bd bs HV
  obtain ⟨_, zd, _⟩ := oct_fits (n := sm) (k := 6) (by omega) (by omega) (by omega) (by have : (8 : Nat) ^ 6 = 262144 := (by decide); omega)
  have zd' : (putOctv sm 6).1.size = 6 := zd
  have HST : Hid ((fillv ((putOctv sm 6).1 ++ ⟨#[0, 32]⟩) 8) = (putOctv sm 6).1 ++ ⟨#[0, 32]⟩) := Lib.hid (by rw [fillv, if_pos (.inr (by rw [ByteArray.size_append, zd']; decide))])
  have zst : ((putOctv sm 6).1 ++ (⟨#[0, 32]⟩ : ByteArray)).size ≤ 8 := by rw [ByteArray.size_append, zd']; decide
  have HR : Hid (∀ F : List UInt8, F = flat [(fillv sn 100).data.toList, (octz m 8).data.toList, (octz u 8).data.toList, (octz g 8).data.toList, (octz sz 12).data.toList, (octz t 12).data.toList, ((putOctv sm 6).1 ++ (⟨#[0, 32]⟩ : ByteArray)).data.toList, fl.data.toList, (fillv l 100).data.toList, magicU.data.toList, (fillv us 32).data.toList, (fillv gr 32).data.toList, (octz 0 8).data.toList, (octz 0 8).data.toList, (fillv sp 155).data.toList, nuls 12] → (⟨F.toArray⟩ : ByteArray) = r) := Lib.hid (by
    rintro F rfl
    apply ba_ext
    rw [HV.out]
    simp only [ByteArray.data_append, Array.toList_append, HA.out, HB.out]
    simp [flat])
  generalize (putOctv sm 6).1 ++ (⟨#[0, 32]⟩ : ByteArray) = st at *
  clear HV HA HB HXe hX lens lA lB bA bB bd zd zd' hKl
  go_wp2_with fail
  refine (HS.out _ (T1.out.below D.out) (F1.out.below D.out)).mono ?_
  rintro e w3 ⟨rfl, hb⟩
  have K3 := Lib.hid (K.out.below hb K.out.2.lt)
  have D3 := Lib.hid (D.out.trans (hb.mono D.out.size))
  clear hb hc K D
  go_wp2_with fail
  refine (put_t w1.heap.size 6 8 _ st _ (by omega) rfl rfl zst (F1.out.below D3.out) K3.out).mono ?_
  rintro e w4 ⟨rfl, hk, -, hb⟩
  have D4 := Lib.hid (D3.out.trans (hb _ (Nat.le_refl _)))
  rw [show fillv st ((8 : Nat) : Int) = st from HST.out] at hk
  have hc := (hk.2.conv).trans (congrArg (fun x => Result.ok (Value.string x) w4) (HR.out _ rfl))
  clear hk hb D3 K3 HS
  go_wp2
  go_ret
  exact ⟨rfl, B1.out.trans (D4.out.mono B1.out.size)⟩
theorem putHead_no {e : Ent} {flag : ByteArray} {size : Int} (h : ¬ (fitsv e = true ∧ flag.size = 1 ∧ (0 ≤ size ∧ size ≤ 3000))) : putHeadv e flag size = ⟨#[]⟩ := by rw [putHeadv, if_neg h]
set_option maxHeartbeats 1600000 in
theorem putHead_impl (k : Int) (p l : ByteArray) (m u g t : Int) (us gr b fl : ByteArray) (sz : Int) (w : World) (hp : p.size ≤ 4194304) (hl : l.size ≤ 4194304) (hus : us.size ≤ 4194304) (hgr : gr.size ≤ 4194304) (hT : Tabs w) (hF : FW w) :
    Calls Tryd.prog 7 #[.agg #[.int .i64 k, .string p, .string l, .int .i64 m, .int .i64 u, .int .i64 g, .int .i64 t, .string us, .string gr, .string b], .string fl, .int .i64 sz] w fun e w' => e = .returned (.string (putHeadv ⟨k, p, l, m, u, g, t, us, gr, b⟩ fl sz)) ∧ Below w.heap.size w w' := by
  by_cases hy : fitsv ⟨k, p, l, m, u, g, t, us, gr, b⟩ = true ∧ fl.size = 1 ∧ (0 ≤ sz ∧ sz ≤ 3000)
  · rw [putHeadv, if_pos hy]
    exact putHead_yes k p l m u g t us gr b fl sz w hp hl hus hgr hy.1 hy.2.1 hy.2.2 hT hF
  · have HE := Lib.hid (putHead_no hy)
    have H1 := Lib.hid (fun w => fits_impl k p l m u g t us gr b w hp hl hus hgr)
    have H2 := Lib.hid (fun w => upTo_any sz 3000 w)
    generalize putHeadv ⟨k, p, l, m, u, g, t, us, gr, b⟩ fl sz = r at HE
    generalize fitsv ⟨k, p, l, m, u, g, t, us, gr, b⟩ = bf at H1 hy
    clear hT hF hp hl hus hgr
    cases bf with
    | false =>
      clear hy
      go_enter Tryd.func7, Tryd.ntmps7
      go_wp2_with fail
      refine (H1.out _).mono ?_
      rintro e w1 ⟨rfl, hb⟩
      obtain ⟨-, bb1, -⟩ := one_new (e1 := ⟨k, p, l, m, u, g, t, us, gr, b⟩) hb
      have B1 := Lib.hid bb1
      clear hb bb1
      go_wp2
      go_ret
      exact ⟨ret_str HE.out.symm, B1.out⟩
    | true =>
      by_cases h1 : (fl.size : Int) = 1
      · have h2 : inB sz 0 3000 = false := inB_f (fun h => hy ⟨rfl, by omega, h⟩)
        rw [h2] at H2
        clear hy h2
        go_enter Tryd.func7, Tryd.ntmps7
        go_wp2_with fail
        refine (H1.out _).mono ?_
        rintro e w1 ⟨rfl, hb⟩
        obtain ⟨-, bb1, -⟩ := one_new (e1 := ⟨k, p, l, m, u, g, t, us, gr, b⟩) hb
        have B1 := Lib.hid bb1
        clear hb bb1
        go_wp2_with fail
        refine (H2.out _).mono ?_
        rintro e w2 ⟨rfl, rfl⟩
        go_wp2
        go_ret
        exact ⟨ret_str HE.out.symm, B1.out⟩
      · clear hy
        go_enter Tryd.func7, Tryd.ntmps7
        go_wp2_with fail
        refine (H1.out _).mono ?_
        rintro e w1 ⟨rfl, hb⟩
        obtain ⟨-, bb1, -⟩ := one_new (e1 := ⟨k, p, l, m, u, g, t, us, gr, b⟩) hb
        have B1 := Lib.hid bb1
        clear hb bb1
        go_wp2
        go_ret
        exact ⟨ret_str HE.out.symm, B1.out⟩
end Go.Proofs.YtkpdeeembnjmnabDoor
