/- impl.block's methods put and putNumber by fields; impl.sumText; spec.l04Oct. -/
import Derived.Test.YtkpdeeembnjmnabDoorHeadMath
namespace Go.Proofs.YtkpdeeembnjmnabDoor
open Go.ChangeShapes Go.WideShapes Go.ChangeAt Go.RowKit

theorem l04Oct_spec (n width : Int) (w : World) (h1 : 1 ≤ width) (h2 : width ≤ 20) :
    Calls Tryd.prog 21 #[.int .i64 n, .int .i64 width] w fun e w' => e = .returned (.string (octz n width)) ∧ w = w' := by
  have H1 := Lib.hid (fun w => putOct_spec n (width - 1) w)
  have HE : Hid (octz n width = (putOctv n (width - 1)).1 ++ ⟨#[0]⟩) := Lib.hid rfl
  have hz := putOct_size n (width - 1)
  generalize octz n width = r at HE
  generalize putOctv n (width - 1) = pr at *
  obtain ⟨a, b⟩ := pr
  simp only at hz HE H1
  go_enter Tryd.func21, Tryd.ntmps21
  go_wp2_with fail
  refine (H1.out _).mono ?_
  rintro e w1 ⟨rfl, rfl⟩
  go_wp2
  go_ret
  exact ⟨ret_str HE.out.symm, rfl⟩
/-- A header in memory, by its fields. -/
def BlkF (w : World) (g : Nat) (F : List (List UInt8)) : Prop := WF F ∧ Blk w g (flat F)
theorem BlkF.below {w w' : World} {g B : Nat} {F : List (List UInt8)} (h : BlkF w g F) (hb : Below B w w') (hg : g < B) : BlkF w' g F := ⟨h.1, h.2.below hb hg⟩
theorem put_f (g k x : Nat) (F : List (List UInt8)) (s : ByteArray) (f : List UInt8) (w : World) (hk : k < 15) (hx : widths[k]? = some x) (hf : F[k]? = some f) (hs : s.size ≤ x) (hF : FW w) (hB : BlkF w g F) :
    Calls Tryd.prog 15 #[.pointer (some ⟨g, 0, none⟩), .int .i64 k, .string s] w fun e w' => e = .returned (.tuple #[]) ∧ BlkF w' g (F.set k (s.data.toList ++ f.drop s.size)) ∧ w'.heap.size = w.heap.size ∧ ∀ B, B ≤ g → Below B w w' := by
  obtain ⟨f', hf', hl, ho⟩ := flat_at hB.1 hk hx
  obtain rfl : f' = f := by rw [hf'] at hf; exact Option.some.inj hf
  have hz : s.data.toList.length = s.size := by simp
  refine (put_any g k x (flat F) s w hk hx hs hF hB.2).mono ?_
  rintro e w' ⟨rfl, h1, h2, h3⟩
  rw [ho _ (by omega), hz] at h1
  exact ⟨rfl, ⟨hB.1.set hk hx (by simp; omega), h1⟩, h2, h3⟩
theorem putNum_f (g k x : Nat) (F : List (List UInt8)) (n : Int) (w : World) (hk : k < 15) (hx : widths[k]? = some x) (hx2 : 2 ≤ x) (hx3 : x ≤ 18) (hn : 0 ≤ n) (hn2 : n.toNat < 8 ^ (x - 1)) (hf : F[k]? = some (nuls x)) (hT : Tabs w) (hF : FW w) (hB : BlkF w g F) :
    Calls Tryd.prog 16 #[.pointer (some ⟨g, 0, none⟩), .int .i64 k, .int .i64 n] w fun e w' => e = .returned (.tuple #[]) ∧ BlkF w' g (F.set k (octz n x).data.toList) ∧ w.heap.size ≤ w'.heap.size ∧ ∀ B, B ≤ g → Below B w w' := by
  obtain ⟨_, hz, _⟩ := oct_fits hn (show 1 ≤ x - 1 by omega) (by omega) hn2
  have hc := hF k x hx
  have H1 := Lib.hid (fun w h => putOct_impl n ((x : Int) - 1) w h)
  rw [show ((x - 1 : Nat) : Int) = (x : Int) - 1 from by omega] at hz
  have HO : Hid ((octz n x).data.toList = (putOctv n ((x : Int) - 1)).1.data.toList ++ (nuls x).drop (putOctv n ((x : Int) - 1)).1.size) := Lib.hid (by
    rw [hz, octz, ByteArray.data_append, Array.toList_append]
    congr 1
    simp only [nuls, List.drop_replicate, show x - (x - 1) = 1 from by omega]
    rfl)
  generalize octz n x = r at HO
  have H2 := Lib.hid (fun w hF hB => put_f g k x F (putOctv n ((x : Int) - 1)).1 (nuls x) w hk hx hf (by omega) hF hB)
  rw [← HO.out] at H2
  generalize putOctv n ((x : Int) - 1) = pr at *
  obtain ⟨a, b⟩ := pr
  simp only at H1 H2 hz
  have HT := Lib.hid hT
  have HF := Lib.hid hF
  have HB := Lib.hid hB
  have hg : g < w.heap.size := hB.2.lt
  have hxx : (x : Int) ≤ 18 := by omega
  have hkk : (k : Int) < 15 := by omega
  clear hT hF hB hf hx hn2 HO
  go_enter Tryd.func16, Tryd.ntmps16
  go_wp2_with fail
  refine (H1.out _ HT.out).mono ?_
  rintro e w1 ⟨rfl, hb1⟩
  have F1 := Lib.hid (HF.out.below hb1)
  have B1 := Lib.hid (HB.out.below hb1 hg)
  have L1 := Lib.hid hb1
  clear hb1
  go_wp2_with fail
  refine (H2.out _ F1.out B1.out).mono ?_
  rintro e w2 ⟨rfl, hk2, hz2, hb2⟩
  have s1 := L1.out.size
  go_wp2
  refine bodyPost_end (results_none rfl _ _ _) rfl ?_
  exact ⟨rfl, hk2, by omega, fun B hB => (L1.out.mono (by omega)).trans (hb2 B hB)⟩
theorem sumText_any (s : ByteArray) (w : World) (hs : s.size ≤ 1048576) (hT : Tabs w) (hF : FW w) :
    Calls Tryd.prog 17 #[.string s] w fun e w' => e = .returned (.string ((putOctv (headSumv s) 6).1 ++ ⟨#[0, 32]⟩)) ∧ Below w.heap.size w w' := by
  have H1 := Lib.hid (fun w h => headSum_impl s w hs h)
  have H2 := Lib.hid (fun w h => putOct_impl (headSumv s) 6 w h)
  have hz := putOct_size (headSumv s) 6
  generalize headSumv s = r at *
  generalize putOctv r 6 = pr at *
  obtain ⟨a, b⟩ := pr
  simp only at H2 hz
  have HT := Lib.hid hT
  have HF := Lib.hid hF
  clear hT hF
  go_enter Tryd.func17, Tryd.ntmps17
  go_wp2_with fail
  refine (H1.out _ HF.out).mono ?_
  rintro e w1 ⟨rfl, hb1⟩
  have T1 := Lib.hid (HT.out.below hb1)
  go_wp2_with fail
  refine (H2.out _ T1.out).mono ?_
  rintro e w2 ⟨rfl, hb2⟩
  go_wp2
  go_ret
  exact ⟨rfl, hb1.trans (hb2.mono hb1.size)⟩
end Go.Proofs.YtkpdeeembnjmnabDoor
