/- Texts joined: NumZ, PutF, EntO, HdO, HeadTextI, PutHeadI, FlagK, Pad, BodyK, UstarMath, RegInv. -/
import Derived.Laws.ResultCell
import Derived.Laws.Rows
import Derived.Laws.Tables
import Derived.Deep.MidRow
import Derived.Test.YtancidbbkoeokabGreatDoorShelf
import Derived.Lib.Bytealg
import Derived.Orders
import Derived.Below
import Derived.WalkKit
import Derived.Test.YtancidbbkoeokabGreatDoorJB3
/- A number in a header's field: octal digits and a NUL, or, where it has no place so, in binary; a header's texts with such numbers: plain lists only. -/
namespace Go.Proofs.YtancidbbkoeokabGreatDoor
open Go.ChangeShapes Go.WideShapes Go.ChangeAt Go.RowKit

def numz (n : Int) (x : Nat) : ByteArray := if (putOctv n ((x : Int) - 1)).2 = true then octz n x else (putBigv n x).1
theorem putOct_true {n width : Int} (h : (putOctv n width).2 = true) : (putOctv n width).1.size = width.toNat ∧ n.toNat < 8 ^ width.toNat := by
  unfold putOctv at h ⊢
  split
  · rename_i hv
    have hl : ((numeral 8 n.toNat).length : Int) ≤ width := hv.2
    refine ⟨by rw [ba_size, ahead_len]; omega, ?_⟩
    exact numeral_lt (by omega) width.toNat n.toNat (by omega)
  · rename_i hv
    rw [if_neg hv] at h
    cases h
theorem bigSt_7 {n : Int} (h0 : 0 ≤ n) (h1 : n ≤ 9007199254740991) {j : Nat} (hj : 7 ≤ j) : (bigSt n j).1 = 0 := by
  obtain ⟨d, rfl⟩ : ∃ d, j = 7 + d := ⟨j - 7, by omega⟩
  induction d with
  | zero => simp only [bigSt]; omega
  | succ d ih =>
    have := ih (by omega)
    show (bigSt n (7 + d)).1 / 256 = 0
    rw [this]; rfl
theorem putBig_fits {n : Int} {x : Nat} (h0 : 0 ≤ n) (h1 : n ≤ 9007199254740991) (hx : 8 ≤ x) (hx2 : x ≤ 20) : (putBigv n x).2 = true ∧ (putBigv n x).1.size = x := by
  have e := putBigv_ok (width := (x : Int)) h0 h1 (by omega) (by omega) (bigSt_7 h0 h1 (j := ((x : Int)).toNat - 1) (by omega))
  rw [e]
  refine ⟨rfl, ?_⟩
  rw [ba_size, List.length_cons, bigSt_len]
  omega
theorem numz_size {n : Int} {x : Nat} (h0 : 0 ≤ n) (h1 : n ≤ 9007199254740991) (hx : 8 ≤ x) (hx2 : x ≤ 20) : (numz n x).size = x := by
  unfold numz
  split
  · rename_i h
    obtain ⟨h2, _⟩ := putOct_true h
    rw [octz, ByteArray.size_append, h2]
    have : (⟨#[0]⟩ : ByteArray).size = 1 := rfl
    omega
  · exact (putBig_fits h0 h1 hx hx2).2
theorem numz_oct {n : Int} {x : Nat} (h0 : 0 ≤ n) (hx : 2 ≤ x) (hx2 : x ≤ 18) (h : n.toNat < 8 ^ (x - 1)) : numz n x = octz n x := by
  obtain ⟨h1, _, _⟩ := oct_fits h0 (show 1 ≤ x - 1 by omega) (by omega) h
  rw [numz, if_pos]
  rw [show (x : Int) - 1 = ((x - 1 : Nat) : Int) from by omega]
  exact h1
theorem numz_big {n : Int} {x : Nat} (hx : 1 ≤ x) (h : 8 ^ (x - 1) ≤ n.toNat) : numz n x = (putBigv n x).1 := by
  rw [numz, if_neg]
  intro hf
  have := (putOct_true hf).2
  rw [show ((x : Int) - 1).toNat = x - 1 from by omega] at this
  omega

/-- A header's texts with such numbers: its name, prefix, flag and magic are told beside the entry. -/
def hdA (e : Ent) (name : ByteArray) (size : Int) : ByteArray := fillv name 100 ++ numz e.mode 8 ++ numz e.uid 8 ++ numz e.gid 8 ++ numz size 12 ++ numz e.time 12
def hdv (e : Ent) (name pf flag : ByteArray) (size : Int) (magic : ByteArray) : ByteArray :=
  hdA e name size ++ (putOctv (sumv (hdA e name size).data.toList + 256 + sumv (headB e pf flag magic).data.toList) 6).1 ++ ⟨#[0, 32]⟩ ++ headB e pf flag magic
theorem hdv_head {e : Ent} {name pf flag magic : ByteArray} {size : Int} (hm : 0 ≤ e.mode ∧ e.mode ≤ 4095) (hu : 0 ≤ e.uid ∧ e.uid ≤ 2097151) (hg : 0 ≤ e.gid ∧ e.gid ≤ 2097151) (ht : 0 ≤ e.time ∧ e.time ≤ 8589934591) (hs : 0 ≤ size ∧ size ≤ 3000) :
    hdv e name pf flag size magic = headv e name pf flag size magic := by
  have p7 : (8 : Nat) ^ (8 - 1) = 2097152 := by decide
  have p11 : (8 : Nat) ^ (12 - 1) = 8589934592 := by decide
  have eA : hdA e name size = headA e name size := by
    rw [hdA, headA, numz_oct hm.1 (by omega) (by omega) (by omega), numz_oct hu.1 (by omega) (by omega) (by omega), numz_oct hg.1 (by omega) (by omega) (by omega), numz_oct hs.1 (by omega) (by omega) (by omega), numz_oct ht.1 (by omega) (by omega) (by omega)]
    rfl
  rw [hdv, headv, eA]
theorem fill_exact {s : ByteArray} {n : Nat} (h : s.size ≤ n) (hn : n ≤ 1024) : (fillv s n).size = n := by
  have := congrArg List.length (fill_short h hn)
  simp [nuls] at this
  omega
theorem octz_exact {n : Int} {x : Nat} (h0 : 0 ≤ n) (hx : 2 ≤ x) (hx2 : x ≤ 18) (h : n.toNat < 8 ^ (x - 1)) : (octz n x).size = x := by
  obtain ⟨_, hz, _⟩ := oct_fits h0 (show 1 ≤ x - 1 by omega) (by omega) h
  rw [octz, ByteArray.size_append, show (x : Int) - 1 = ((x - 1 : Nat) : Int) from by omega, hz]
  have : (⟨#[0]⟩ : ByteArray).size = 1 := rfl
  omega
theorem hdA_size {e : Ent} {name : ByteArray} {size : Int} (zn : name.size ≤ 100) (nm : 0 ≤ e.mode ∧ e.mode ≤ 9007199254740991) (nu : 0 ≤ e.uid ∧ e.uid ≤ 9007199254740991) (ng : 0 ≤ e.gid ∧ e.gid ≤ 9007199254740991) (nt : 0 ≤ e.time ∧ e.time ≤ 9007199254740991) (ns : 0 ≤ size ∧ size ≤ 9007199254740991) : (hdA e name size).size = 148 := by
  have a1 := fill_exact zn (by omega)
  have a2 := numz_size (x := 8) nm.1 nm.2 (by omega) (by omega)
  have a3 := numz_size (x := 8) nu.1 nu.2 (by omega) (by omega)
  have a4 := numz_size (x := 8) ng.1 ng.2 (by omega) (by omega)
  have a5 := numz_size (x := 12) ns.1 ns.2 (by omega) (by omega)
  have a6 := numz_size (x := 12) nt.1 nt.2 (by omega) (by omega)
  simp only [Int.cast_ofNat_Int] at a1
  simp only [hdA, ByteArray.size_append]
  omega
theorem headB_size {e : Ent} {pf flag magic : ByteArray} (zl : e.link.size ≤ 100) (zus : e.user.size ≤ 32) (zgr : e.group.size ≤ 32) (zpf : pf.size ≤ 155) (zfl : flag.size = 1) (zmg : magic.size = 8) : (headB e pf flag magic).size = 356 := by
  have b1 := fill_exact zl (by omega)
  have b2 := fill_exact zus (by omega)
  have b3 := fill_exact zgr (by omega)
  have b4 := fill_exact zpf (by omega)
  have b5 := octz_exact (n := 0) (x := 8) (by omega) (by omega) (by omega) (by decide)
  have b6 := nulv_size 12
  simp only [Int.cast_ofNat_Int] at b1 b2 b3 b4 b5
  simp only [headB, ByteArray.size_append]
  omega
theorem hdv_size {e : Ent} {name pf flag magic : ByteArray} {size : Int} (zn : name.size ≤ 100) (nm : 0 ≤ e.mode ∧ e.mode ≤ 9007199254740991) (nu : 0 ≤ e.uid ∧ e.uid ≤ 9007199254740991) (ng : 0 ≤ e.gid ∧ e.gid ≤ 9007199254740991) (nt : 0 ≤ e.time ∧ e.time ≤ 9007199254740991) (ns : 0 ≤ size ∧ size ≤ 9007199254740991)
    (zl : e.link.size ≤ 100) (zus : e.user.size ≤ 32) (zgr : e.group.size ≤ 32) (zpf : pf.size ≤ 155) (zfl : flag.size = 1) (zmg : magic.size = 8) : (hdv e name pf flag size magic).size = 512 := by
  have hA := hdA_size (e := e) zn nm nu ng nt ns
  have hB := headB_size (e := e) zl zus zgr zpf zfl zmg
  have s1 := sumv_bd (hdA e name size).data.toList
  have s2 := sumv_bd (headB e pf flag magic).data.toList
  have l1 : (hdA e name size).data.toList.length = 148 := by simpa using hA
  have l2 : (headB e pf flag magic).data.toList.length = 356 := by simpa using hB
  have p6 : (8 : Nat) ^ 6 = 262144 := by decide
  obtain ⟨_, hz, _⟩ := oct_fits (n := sumv (hdA e name size).data.toList + 256 + sumv (headB e pf flag magic).data.toList) (k := 6) (by omega) (by omega) (by omega) (by omega)
  have hz' : (putOctv (sumv (hdA e name size).data.toList + 256 + sumv (headB e pf flag magic).data.toList) 6).1.size = 6 := hz
  simp only [hdv, ByteArray.size_append, hA, hB, hz']
  rfl
end Go.Proofs.YtancidbbkoeokabGreatDoor

/- impl.block's methods put and putNumber by fields; impl.sumText; spec.l04Oct. -/
namespace Go.Proofs.YtancidbbkoeokabGreatDoor
open Go.ChangeShapes Go.WideShapes Go.ChangeAt Go.RowKit

theorem l04Oct_spec (n width : Int) (w : World) (h1 : 1 ≤ width) (h2 : width ≤ 20) :
    Calls Tryz.prog 153 #[.int .i64 n, .int .i64 width] w fun e w' => e = .returned (.string (octz n width)) ∧ w = w' := by
  have H1 := Lib.hid (fun w => putOct_spec n (width - 1) w)
  have HE : Hid (octz n width = (putOctv n (width - 1)).1 ++ ⟨#[0]⟩) := Lib.hid rfl
  have hz := putOct_size n (width - 1)
  generalize octz n width = r at HE
  generalize putOctv n (width - 1) = pr at *
  obtain ⟨a, b⟩ := pr
  simp only at hz HE H1
  go_enter Tryz.func153, Tryz.ntmps153
  go_wp2_with fail
  refine (H1.out _).mono ?_
  rintro e w1 ⟨rfl, rfl⟩
  go_wp2
  go_ret
  exact ⟨ret_str HE.out.symm, rfl⟩
/-- A header in memory, by its fields. -/
def BlkF (w : World) (g : Nat) (F : List (List UInt8)) : Prop := WF F ∧ Blk w g (flat F)
theorem BlkF.below {w w' : World} {g B : Nat} {F : List (List UInt8)} (h : BlkF w g F) (hb : Below B w w') (hg : g < B) : BlkF w' g F := ⟨h.1, h.2.below hb hg⟩
theorem put_f (g k x : Nat) (F : List (List UInt8)) (s : ByteArray) (f : List UInt8) (w : World) (hk : k < 15) (hx : widths[k]? = some x) (hf : F[k]? = some f) (hs : s.size ≤ x) (hF : FW w) (hB : BlkF w g F) :
    Calls Tryz.prog 165 #[.pointer (some ⟨g, 0, none⟩), .int .i64 k, .string s] w fun e w' => e = .returned (.tuple #[]) ∧ BlkF w' g (F.set k (s.data.toList ++ f.drop s.size)) ∧ w'.heap.size = w.heap.size ∧ w.grownBy w' (some g) := by
  obtain ⟨f', hf', hl, ho⟩ := flat_at hB.1 hk hx
  obtain rfl : f' = f := by rw [hf'] at hf; exact Option.some.inj hf
  have hz : s.data.toList.length = s.size := by simp
  refine (put_anyG g k x (flat F) s w hk hx hs hF hB.2).mono ?_
  rintro e w' ⟨rfl, h1, h2, h3⟩
  rw [ho _ (by omega), hz] at h1
  exact ⟨rfl, ⟨hB.1.set hk hx (by simp; omega), h1⟩, h2, h3⟩
theorem putNum_z (g k x : Nat) (F : List (List UInt8)) (n : Int) (w : World) (hk : k < 15) (hx : widths[k]? = some x) (hx2 : 8 ≤ x) (hx3 : x ≤ 18) (hn : 0 ≤ n ∧ n ≤ 9007199254740991) (hf : F[k]? = some (nuls x)) (hT : Tabs w) (hF : FW w) (hB : BlkF w g F) :
    Calls Tryz.prog 166 #[.pointer (some ⟨g, 0, none⟩), .int .i64 k, .int .i64 n] w fun e w' => e = .returned (.tuple #[]) ∧ BlkF w' g (F.set k (numz n x).data.toList) ∧ w.heap.size ≤ w'.heap.size ∧ w.grownBy w' (some g) := by
  have hc := hF k x hx
  have H1 := Lib.hid (fun w h => putOct_impl n ((x : Int) - 1) w h)
  have H3 := Lib.hid (fun w => putBig_impl n x w)
  have hzz := numz_size hn.1 hn.2 hx2 (by omega)
  have HT := Lib.hid hT
  have HF := Lib.hid hF
  have HB := Lib.hid hB
  have hg : g < w.heap.size := hB.2.lt
  have hxx : (x : Int) ≤ 18 := by omega
  have hx8 : 8 ≤ (x : Int) := by omega
  have hkk : (k : Int) < 15 := by omega
  cases ho : (putOctv n ((x : Int) - 1)).2 with
  | true =>
    have hz : (putOctv n ((x : Int) - 1)).1.size = x - 1 := by
      have := (putOct_true ho).1
      omega
    have HO : Hid ((numz n x).data.toList = (putOctv n ((x : Int) - 1)).1.data.toList ++ (nuls x).drop (putOctv n ((x : Int) - 1)).1.size) := Lib.hid (by
      rw [hz, numz, if_pos ho, octz, ByteArray.data_append, Array.toList_append]
      congr 1
      simp only [nuls, List.drop_replicate, show x - (x - 1) = 1 from by omega]
      rfl)
    generalize numz n x = r at HO
    have H2 := Lib.hid (fun w hF hB => put_f g k x F (putOctv n ((x : Int) - 1)).1 (nuls x) w hk hx hf (by omega) hF hB)
    rw [← HO.out] at H2
    generalize putOctv n ((x : Int) - 1) = pr at *
    obtain ⟨a, b⟩ := pr
    simp only at H1 H2 hz ho
    subst ho
    clear hT hF hB hf hx HO H3 hzz
    go_enter Tryz.func166, Tryz.ntmps166
    go_wp2_with fail
    refine (H1.out _ HT.out).mono ?_
    rintro e w1 ⟨rfl, hb1⟩
    have F1 := Lib.hid (HF.out.below hb1)
    have B1 := Lib.hid (HB.out.below hb1 hg)
    have L1 := Lib.hid hb1
    clear hb1
    go_wp2_with fail
    refine (H2.out _ F1.out B1.out).mono ?_
    rintro e w2 ⟨rfl, hk2, hz2, hb2⟩
    have s1 := L1.out.size
    go_wp2
    refine bodyPost_end (results_none rfl _ _ _) rfl ?_
    exact ⟨rfl, hk2, by omega, grown_after (grown_of_below L1.out) hb2⟩
  | false =>
    have HO : Hid ((numz n x).data.toList = (putBigv n x).1.data.toList ++ (nuls x).drop (putBigv n x).1.size) := Lib.hid (by
      rw [(putBig_fits hn.1 hn.2 hx2 (by omega)).2, numz, if_neg (by rw [ho]; decide)]
      simp [nuls])
    have hz : (putBigv n x).1.size = x := (putBig_fits hn.1 hn.2 hx2 (by omega)).2
    generalize numz n x = r at HO
    have H2 := Lib.hid (fun w hF hB => put_f g k x F (putBigv n x).1 (nuls x) w hk hx hf (by omega) hF hB)
    rw [← HO.out] at H2
    generalize putOctv n ((x : Int) - 1) = pr at *
    obtain ⟨a, b⟩ := pr
    simp only at H1 ho
    subst ho
    generalize putBigv n x = pb at *
    obtain ⟨c, d⟩ := pb
    simp only at H2 H3 hz
    clear hT hF hB hf hx HO hzz
    go_enter Tryz.func166, Tryz.ntmps166
    go_wp2_with fail
    refine (H1.out _ HT.out).mono ?_
    rintro e w1 ⟨rfl, hb1⟩
    have F1 := Lib.hid (HF.out.below hb1)
    have B1 := Lib.hid (HB.out.below hb1 hg)
    have L1 := Lib.hid hb1
    clear hb1
    go_wp2_with fail
    refine (H3.out _).mono ?_
    rintro e w2 ⟨rfl, hb2⟩
    have F2 := Lib.hid (F1.out.below hb2)
    have B2 := Lib.hid (B1.out.below hb2 B1.out.2.lt)
    have L2 := Lib.hid (btE L1.out hb2)
    clear hb2
    go_wp2_with fail
    refine (H2.out _ F2.out B2.out).mono ?_
    rintro e w3 ⟨rfl, hk2, hz2, hb2⟩
    have s1 := L2.out.size
    go_wp2
    refine bodyPost_end (results_none rfl _ _ _) rfl ?_
    exact ⟨rfl, hk2, by omega, grown_after (grown_of_below L2.out) hb2⟩
theorem sumText_any (s : ByteArray) (w : World) (hs : s.size ≤ 1048576) (hT : Tabs w) (hF : FW w) :
    Calls Tryz.prog 107 #[.string s] w fun e w' => e = .returned (.string ((putOctv (headSumv s) 6).1 ++ ⟨#[0, 32]⟩)) ∧ Below w.heap.size w w' := by
  have H1 := Lib.hid (fun w h => headSum_impl s w hs h)
  have H2 := Lib.hid (fun w h => putOct_impl (headSumv s) 6 w h)
  have hz := putOct_size (headSumv s) 6
  generalize headSumv s = r at *
  generalize putOctv r 6 = pr at *
  obtain ⟨a, b⟩ := pr
  simp only at H2 hz
  have HT := Lib.hid hT
  have HF := Lib.hid hF
  clear hT hF
  go_enter Tryz.func107, Tryz.ntmps107
  go_wp2_with fail
  refine (H1.out _ HF.out).mono ?_
  rintro e w1 ⟨rfl, hb1⟩
  have T1 := Lib.hid (HT.out.below hb1)
  go_wp2_with fail
  refine (H2.out _ T1.out).mono ?_
  rintro e w2 ⟨rfl, hb2⟩
  go_wp2
  go_ret
  exact ⟨rfl, hb1.trans (hb2.mono hb1.size)⟩
end Go.Proofs.YtancidbbkoeokabGreatDoor

/- An entry in a block of its own that may be written. -/
namespace Go.Proofs.YtancidbbkoeokabGreatDoor
open Go.ChangeShapes Go.WideShapes Go.ChangeAt Go.RowKit Go.Deep

def EntO (w : World) (g : Nat) (e : Ent) : Prop := w.heap[g]? = some (.cells e.cells.toArray 44 (0, 0))
theorem EntO.new (w : World) (e : Ent) : EntO (w.alloc (.cells e.cells.toArray 44)) w.heap.size e := by
  show (w.heap.push _)[w.heap.size]? = _
  simp
theorem EntO.below {w w' : World} {g B : Nat} {e : Ent} (h : EntO w g e) (hb : Below B w w') (hg : g < B) : EntO w' g e := (hb.block g hg).trans h
theorem EntO.lt {w : World} {g : Nat} {e : Ent} (h : EntO w g e) : g < w.heap.size := (Array.getElem?_eq_some_iff.1 h).1
theorem EntO.at {w : World} {g : Nat} {e : Ent} (h : EntO w g e) : EntAt w g 0 e := fun i hi => by
  unfold EntO at h
  simp [World.cell?, h]
theorem EntO.fz {w : World} {g : Nat} {e : Ent} (h : EntO w g e) (i : Nat) : w.frozen? ⟨g, i, none⟩ = false := by
  unfold EntO at h
  simp [World.frozen?, h]
theorem EntO.grown {w w' : World} {g : Nat} {row : Option Nat} {e : Ent} (h : EntO w g e) (hb : w.grownBy w' row) (hg : some g ≠ row) : EntO w' g e := (hb.block g h.lt hg).trans h
theorem EntO.set {w : World} {g : Nat} {e e' : Ent} (h : EntO w g e) (i : Nat) (v : Value) (he : e.cells.toArray.setIfInBounds i v = e'.cells.toArray) : EntO (w.setCell ⟨g, i, none⟩ v) g e' := by
  have hlt := h.lt
  unfold EntO at h ⊢
  have hg : w.heap[g] = .cells e.cells.toArray 44 (0, 0) := (Array.getElem?_eq_some_iff.1 h).2
  simp [World.setCell, hlt, Array.getElem_modify, hg, he]
theorem EntO.other {w : World} {g b i : Nat} {e : Ent} {v : Value} (h : EntO w g e) (hne : g ≠ b) : EntO (w.setCell ⟨b, i, none⟩ v) g e := by
  unfold EntO
  rw [Below.heap_setCell _ _ _ g (fun e => hne e)]
  exact h
/-- A whole entry stored. -/
def putE (w : World) (g : Nat) (y : Ent) : World := ((((((((((w.setCell ⟨g, 0, none⟩ (.int .i64 y.kind)).setCell ⟨g, 1, none⟩ (.string y.path)).setCell ⟨g, 2, none⟩ (.string y.link)).setCell ⟨g, 3, none⟩ (.int .i64 y.mode)).setCell ⟨g, 4, none⟩ (.int .i64 y.uid)).setCell ⟨g, 5, none⟩ (.int .i64 y.gid)).setCell ⟨g, 6, none⟩ (.int .i64 y.time)).setCell ⟨g, 7, none⟩ (.string y.user)).setCell ⟨g, 8, none⟩ (.string y.group)).setCell ⟨g, 9, none⟩ (.string y.body))
theorem EntO.put {w : World} {g : Nat} {x : Ent} (h : EntO w g x) (y : Ent) : EntO (putE w g y) g y := (EntO.set (e' := ⟨y.kind, y.path, y.link, y.mode, y.uid, y.gid, y.time, y.user, y.group, y.body⟩) (EntO.set (e' := ⟨y.kind, y.path, y.link, y.mode, y.uid, y.gid, y.time, y.user, y.group, x.body⟩) (EntO.set (e' := ⟨y.kind, y.path, y.link, y.mode, y.uid, y.gid, y.time, y.user, x.group, x.body⟩) (EntO.set (e' := ⟨y.kind, y.path, y.link, y.mode, y.uid, y.gid, y.time, x.user, x.group, x.body⟩) (EntO.set (e' := ⟨y.kind, y.path, y.link, y.mode, y.uid, y.gid, x.time, x.user, x.group, x.body⟩) (EntO.set (e' := ⟨y.kind, y.path, y.link, y.mode, y.uid, x.gid, x.time, x.user, x.group, x.body⟩) (EntO.set (e' := ⟨y.kind, y.path, y.link, y.mode, x.uid, x.gid, x.time, x.user, x.group, x.body⟩) (EntO.set (e' := ⟨y.kind, y.path, y.link, x.mode, x.uid, x.gid, x.time, x.user, x.group, x.body⟩) (EntO.set (e' := ⟨y.kind, y.path, x.link, x.mode, x.uid, x.gid, x.time, x.user, x.group, x.body⟩) (EntO.set (e' := ⟨y.kind, x.path, x.link, x.mode, x.uid, x.gid, x.time, x.user, x.group, x.body⟩) h 0 (.int .i64 y.kind) rfl) 1 (.string y.path) rfl) 2 (.string y.link) rfl) 3 (.int .i64 y.mode) rfl) 4 (.int .i64 y.uid) rfl) 5 (.int .i64 y.gid) rfl) 6 (.int .i64 y.time) rfl) 7 (.string y.user) rfl) 8 (.string y.group) rfl) 9 (.string y.body) rfl)
theorem below_putE {w w' : World} {B g : Nat} (h : Below B w w') (hg : B ≤ g) (y : Ent) : Below B w (putE w' g y) := ((((((((((h.setCell (p := ⟨g, 0, none⟩) hg _).setCell (p := ⟨g, 1, none⟩) hg _).setCell (p := ⟨g, 2, none⟩) hg _).setCell (p := ⟨g, 3, none⟩) hg _).setCell (p := ⟨g, 4, none⟩) hg _).setCell (p := ⟨g, 5, none⟩) hg _).setCell (p := ⟨g, 6, none⟩) hg _).setCell (p := ⟨g, 7, none⟩) hg _).setCell (p := ⟨g, 8, none⟩) hg _).setCell (p := ⟨g, 9, none⟩) hg _)
theorem putE_other {w : World} {b g : Nat} {y : Ent} (hne : b ≠ g) : (putE w g y).heap[b]? = w.heap[b]? := by
  unfold putE
  repeat rw [Below.heap_setCell _ _ _ b (fun e => hne e)]
theorem grown_reflO (w : World) (row : Option Nat) : w.grownBy w row := ⟨rfl, rfl, rfl, Nat.le_refl _, fun _ _ _ => rfl⟩
theorem grown_setO {w w' : World} {g : Nat} (h : w.grownBy w' (some g)) (o : Nat) (v : Value) : w.grownBy (w'.setCell ⟨g, o, none⟩ v) (some g) :=
  ⟨h.os, h.tape, h.output, by simpa using h.size, fun k hk hne => (Below.heap_setCell w' _ v k (fun e => hne (by rw [e]))).trans (h.block k hk hne)⟩
theorem grown_putE (w : World) (g : Nat) (y : Ent) : w.grownBy (putE w g y) (some g) := (grown_setO (grown_setO (grown_setO (grown_setO (grown_setO (grown_setO (grown_setO (grown_setO (grown_setO (grown_setO (grown_reflO w (some g)) 0 _) 1 _) 2 _) 3 _) 4 _) 5 _) 6 _) 7 _) 8 _) 9 _)
theorem Tryz.sizeEntO : (Tryz.prog.info? 44).map (·.size) = some 10 := by kernel_rfl
theorem res_ent2 {fn : Func} {p u : Tmp} (h : fn.results = #[.cell p 44, .tmp u]) (tmps : Array Value) {w : World} {g : Nat} {e : Ent}
    (hp : tmps.getD p undef = .pointer (some ⟨g, 0, none⟩)) (hg : EntO w g e) :
    (results fn tmps).run Tryz.prog w = .ok (.tuple #[.agg e.cells.toArray, tmps.getD u undef]) w := by
  rw [results_cell_tmp h, hp]
  simp [asAddr, run_loadVar_row w g 44 44 e.cells.toArray (0, 0) _ hg Tryz.underlying44 rfl (by rw [Tryz.sizeEntO]; rfl), Result.andThen]
theorem res_ent1 {fn : Func} {p : Tmp} (h : fn.results = #[.cell p 44]) (tmps : Array Value) {w : World} {g : Nat} {e : Ent}
    (hp : tmps.getD p undef = .pointer (some ⟨g, 0, none⟩)) (hg : EntO w g e) :
    (results fn tmps).run Tryz.prog w = .ok (.agg e.cells.toArray) w :=
  results_cell_row h _ _ g _ e.cells.toArray (0, 0) _ hp hg Tryz.underlying44 rfl (by rw [Tryz.sizeEntO]; rfl)
end Go.Proofs.YtancidbbkoeokabGreatDoor

/- What a header says (an entry, a flag and a size) in a block of its own. -/
namespace Go.Proofs.YtancidbbkoeokabGreatDoor
open Go.ChangeShapes Go.WideShapes Go.ChangeAt Go.RowKit Go.Deep

def hdCells (e : Ent) (fl : ByteArray) (sz : Int) : List Value := [.int .i64 e.kind, .string e.path, .string e.link, .int .i64 e.mode, .int .i64 e.uid, .int .i64 e.gid, .int .i64 e.time, .string e.user, .string e.group, .string e.body, .string fl, .int .i64 sz]
def HdO (w : World) (g : Nat) (e : Ent) (fl : ByteArray) (sz : Int) : Prop := w.heap[g]? = some (.cells (hdCells e fl sz).toArray 46 (0, 0))
theorem HdO.new (w : World) (e : Ent) (fl : ByteArray) (sz : Int) : HdO (w.alloc (.cells (hdCells e fl sz).toArray 46)) w.heap.size e fl sz := by
  show (w.heap.push _)[w.heap.size]? = _
  simp
theorem HdO.below {w w' : World} {g B : Nat} {e : Ent} {fl : ByteArray} {sz : Int} (h : HdO w g e fl sz) (hb : Below B w w') (hg : g < B) : HdO w' g e fl sz := (hb.block g hg).trans h
theorem HdO.lt {w : World} {g : Nat} {e : Ent} {fl : ByteArray} {sz : Int} (h : HdO w g e fl sz) : g < w.heap.size := (Array.getElem?_eq_some_iff.1 h).1
theorem HdO.grown {w w' : World} {g : Nat} {row : Option Nat} {e : Ent} {fl : ByteArray} {sz : Int} (h : HdO w g e fl sz) (hb : w.grownBy w' row) (hg : some g ≠ row) : HdO w' g e fl sz := (hb.block g h.lt hg).trans h
theorem HdO.fz {w : World} {g : Nat} {e : Ent} {fl : ByteArray} {sz : Int} (h : HdO w g e fl sz) (i : Nat) : w.frozen? ⟨g, i, none⟩ = false := by
  unfold HdO at h
  simp [World.frozen?, h]
theorem HdO.at {w : World} {g : Nat} {e : Ent} {fl : ByteArray} {sz : Int} (h : HdO w g e fl sz) : EntAt w g 0 e := fun i hi => by
  unfold HdO at h
  have : i = 0 ∨ i = 1 ∨ i = 2 ∨ i = 3 ∨ i = 4 ∨ i = 5 ∨ i = 6 ∨ i = 7 ∨ i = 8 ∨ i = 9 := by omega
  rcases this with rfl | rfl | rfl | rfl | rfl | rfl | rfl | rfl | rfl | rfl <;> simp [World.cell?, h, hdCells, Ent.cells]
theorem HdO.two {w : World} {g : Nat} {e : Ent} {fl : ByteArray} {sz : Int} (h : HdO w g e fl sz) : w.cell? ⟨g, 10, none⟩ = some (.string fl) ∧ w.cell? ⟨g, 11, none⟩ = some (.int .i64 sz) := by
  unfold HdO at h
  constructor <;> simp [World.cell?, h, hdCells]
theorem HdO.ent {w : World} {g : Nat} {e : Ent} {fl : ByteArray} {sz : Int} (h : HdO w g e fl sz) : (loadVar 44 ⟨g, 0, none⟩).run Tryz.prog w = .ok (.agg e.cells.toArray) w := by
  refine run_loadVar_mid _ _ 0 _ _ _ ?_ Tryz.underlying44 rfl (by rw [Tryz.sizeEntO]; rfl)
  intro j v hv
  have hj : j < 10 := by
    have := (List.getElem?_eq_some_iff.1 hv).1
    simpa [Ent.cells] using this
  rw [Nat.zero_add]
  have := h.at j hj
  rw [Nat.zero_add] at this
  rw [this, hv]
theorem Tryz.sizeHdO : (Tryz.prog.info? 46).map (·.size) = some 12 := by kernel_rfl
theorem HdO.all {w : World} {g : Nat} {e : Ent} {fl : ByteArray} {sz : Int} (h : HdO w g e fl sz) : (loadVar 46 ⟨g, 0, none⟩).run Tryz.prog w = .ok (.agg (hdCells e fl sz).toArray) w :=
  run_loadVar_row w g 46 46 (hdCells e fl sz).toArray (0, 0) _ h Tryz.underlying46 rfl (by rw [Tryz.sizeHdO]; rfl)
theorem HdO.set {w : World} {g : Nat} {e e' : Ent} {fl fl' : ByteArray} {sz sz' : Int} (h : HdO w g e fl sz) (i : Nat) (v : Value) (he : (hdCells e fl sz).toArray.setIfInBounds i v = (hdCells e' fl' sz').toArray) : HdO (w.setCell ⟨g, i, none⟩ v) g e' fl' sz' := by
  have hlt := h.lt
  unfold HdO at h ⊢
  have hg : w.heap[g] = .cells (hdCells e fl sz).toArray 46 (0, 0) := (Array.getElem?_eq_some_iff.1 h).2
  simp [World.setCell, hlt, Array.getElem_modify, hg, he]
end Go.Proofs.YtancidbbkoeokabGreatDoor

/- Contract of impl.headText: a header by its texts, whatever its numbers. -/
namespace Go.Proofs.YtancidbbkoeokabGreatDoor
open Go.ChangeShapes Go.WideShapes Go.ChangeAt Go.RowKit Go.Deep

theorem put_t (g k x : Nat) (F : List (List UInt8)) (s : ByteArray) (w : World) (hk : k < 15) (hx : widths[k]? = some x) (hf : F[k]? = some (nuls x)) (hs : s.size ≤ x) (hF : FW w) (hB : BlkF w g F) :
    Calls Tryz.prog 165 #[.pointer (some ⟨g, 0, none⟩), .int .i64 k, .string s] w fun e w' => e = .returned (.tuple #[]) ∧ BlkF w' g (F.set k (fillv s x).data.toList) ∧ w.heap.size ≤ w'.heap.size ∧ w.grownBy w' (some g) := by
  refine (put_f g k x F s (nuls x) w hk hx hf hs hF hB).mono ?_
  obtain ⟨y, hy, y1, y2, _⟩ := widths_at hk
  obtain rfl : y = x := by rw [hy] at hx; exact Option.some.inj hx
  rw [fill_short hs (by omega)]
  rintro e w' ⟨rfl, h1, h2, h3⟩
  rw [show (nuls y).drop s.size = nuls (y - s.size) from by simp [nuls]] at h1
  exact ⟨rfl, h1, by omega, h3⟩
def F0 : List (List UInt8) := widths.map nuls ++ [nuls 12]
theorem F0_wf : WF F0 := by
  show F0.map List.length = widths ++ [12]
  decide
theorem F0_flat : flat F0 = zeros512 := by decide +kernel
theorem head_sum {X Y : List UInt8} (hX : X.length = 148) (hY : Y.length = 356) : headSumv ⟨(X ++ nuls 8 ++ Y).toArray⟩ = sumv X + 256 + sumv Y := by
  have hl : (X ++ nuls 8 ++ Y).length = 512 := by simp [nuls, hX, hY]
  rw [headSumv, if_neg (by rw [ba_size, hl]; omega)]
  have e1 : ((X ++ nuls 8 ++ Y).take 512) = X ++ nuls 8 ++ Y := List.take_of_length_le (by omega)
  have e2 : (X ++ nuls 8 ++ Y).take 148 = X := by rw [List.append_assoc, ← hX]; simp
  have e3 : (X ++ nuls 8 ++ Y).drop 156 = Y := by
    have : (X ++ nuls 8).length = 156 := by simp [nuls, hX]
    rw [← this]; simp
  show sumv ((X ++ nuls 8 ++ Y).take 148) + 256 + sumv (((X ++ nuls 8 ++ Y).take 512).drop 156) = _
  rw [e1, e2, e3]
/-- The numbers of an entry that fits have their digits. -/
theorem fits_nums {e : Ent} (h : fitsv e = true) : (0 ≤ e.mode ∧ e.mode ≤ 4095) ∧ (0 ≤ e.uid ∧ e.uid ≤ 2097151) ∧ (0 ≤ e.gid ∧ e.gid ≤ 2097151) ∧ (0 ≤ e.time ∧ e.time ≤ 8589934591) ∧ e.link.size ≤ 100 ∧ e.user.size ≤ 32 ∧ e.group.size ≤ 32 ∧ splitOk e.path = true := by
  simp only [fitsv, entOkv, Bool.and_eq_true, decide_eq_true_eq, inB, whov] at h
  exact ⟨by omega, by omega, by omega, by omega, by omega, by omega, by omega, h.1.1.1.1.2⟩
theorem split_sizes {s : ByteArray} (h : splitOk s = true) : (splitN s).size ≤ 100 ∧ (splitP s).size ≤ 155 := by
  simp only [splitOk, Bool.and_eq_true, Bool.or_eq_true, decide_eq_true_eq] at h
  by_cases hs : s.size ≤ 100
  · obtain ⟨_, h2, h3⟩ := split_short h.1 hs
    rw [h2, h3]
    exact ⟨hs, by decide⟩
  · have hl : slashv s ≤ 155 := h.2.resolve_left hs
    obtain ⟨_, h2, h3⟩ := split_long h.1 (by omega) hl
    obtain ⟨_, hge, hlt, _⟩ := slash_there h.1 (by omega)
    rw [h2, h3, ByteArray.size_extract, ByteArray.size_extract]
    omega

set_option maxHeartbeats 6400000 in
set_option maxRecDepth 8000 in
theorem headText_impl (k : Int) (p l : ByteArray) (m u g t : Int) (us gr b fl : ByteArray) (sz : Int) (sp mg : ByteArray) (w : World) (zp : p.size ≤ 100) (zl : l.size ≤ 100) (zus : us.size ≤ 32) (zgr : gr.size ≤ 32) (zfl : fl.size = 1) (zsp : sp.size ≤ 155) (zmg : mg.size = 8) (nm : 0 ≤ m ∧ m ≤ 9007199254740991) (nu : 0 ≤ u ∧ u ≤ 9007199254740991) (ng : 0 ≤ g ∧ g ≤ 9007199254740991) (nt : 0 ≤ t ∧ t ≤ 9007199254740991) (ns : 0 ≤ sz ∧ sz ≤ 9007199254740991) (hT : Tabs w) (hF : FW w) :
    Calls Tryz.prog 112 #[.agg #[.int .i64 k, .string p, .string l, .int .i64 m, .int .i64 u, .int .i64 g, .int .i64 t, .string us, .string gr, .string b, .string fl, .int .i64 sz], .string sp, .string mg] w fun e w' => e = .returned (.string (hdv ⟨k, p, l, m, u, g, t, us, gr, b⟩ p sp fl sz mg)) ∧ Below w.heap.size w w' := by
  have HA : Hid ((hdA ⟨k, p, l, m, u, g, t, us, gr, b⟩ p sz).data.toList = (fillv p 100).data.toList ++ (numz m 8).data.toList ++ (numz u 8).data.toList ++ (numz g 8).data.toList ++ (numz sz 12).data.toList ++ (numz t 12).data.toList) := Lib.hid (by simp [hdA])
  have HB : Hid ((headB ⟨k, p, l, m, u, g, t, us, gr, b⟩ sp fl mg).data.toList = fl.data.toList ++ (fillv l 100).data.toList ++ mg.data.toList ++ (fillv us 32).data.toList ++ (fillv gr 32).data.toList ++ (numz 0 8).data.toList ++ (numz 0 8).data.toList ++ (fillv sp 155).data.toList ++ nuls 12) := Lib.hid (by
    rw [numz_oct (n := 0) (x := 8) (by omega) (by omega) (by omega) (by decide)]
    simp [headB, nulv])
  have HV : Hid (hdv ⟨k, p, l, m, u, g, t, us, gr, b⟩ p sp fl sz mg = hdA ⟨k, p, l, m, u, g, t, us, gr, b⟩ p sz ++ (putOctv (sumv (hdA ⟨k, p, l, m, u, g, t, us, gr, b⟩ p sz).data.toList + 256 + sumv (headB ⟨k, p, l, m, u, g, t, us, gr, b⟩ sp fl mg).data.toList) 6).1 ++ ⟨#[0, 32]⟩ ++ headB ⟨k, p, l, m, u, g, t, us, gr, b⟩ sp fl mg) := Lib.hid rfl
  generalize hdv ⟨k, p, l, m, u, g, t, us, gr, b⟩ p sp fl sz mg = r at HV
  generalize hdA ⟨k, p, l, m, u, g, t, us, gr, b⟩ p sz = hA at HA HV
  generalize headB ⟨k, p, l, m, u, g, t, us, gr, b⟩ sp fl mg = hB at HB HV
  have hz := fun w => zero_blk w
  have HF := Lib.hid hF
  have HT := Lib.hid hT
  have HD0 := Lib.hid (HdO.new w ⟨k, p, l, m, u, g, t, us, gr, b⟩ fl sz)
  have HB0 := Lib.hid ((Below.refl w.heap.size w).alloc (Nat.le_refl _) (.cells (hdCells ⟨k, p, l, m, u, g, t, us, gr, b⟩ fl sz).toArray 46))
  have Hlt0 := HD0.out.lt
  simp only [hdCells] at HD0 HB0 Hlt0
  clear hF hT
  have K0 := Lib.hid (fun w1 => Blk.new w1 (flat F0) (by rw [F0_flat]; exact List.length_replicate))
  rw [F0_flat] at K0
  generalize (Lib.byteCells zeros512).toArray = Z at hz K0
  go_enter Tryz.func112, Tryz.ntmps112
  go_wp2_with fail
  have hs0 : (w.alloc (.cells #[.int .i64 k, .string p, .string l, .int .i64 m, .int .i64 u, .int .i64 g, .int .i64 t, .string us, .string gr, .string b, .string fl, .int .i64 sz] 46)).heap.size = w.heap.size + 1 := by simp
  generalize w.alloc (.cells #[.int .i64 k, .string p, .string l, .int .i64 m, .int .i64 u, .int .i64 g, .int .i64 t, .string us, .string gr, .string b, .string fl, .int .i64 sz] 46) = w1 at *
  have hs1 : w1.heap.size = w.heap.size + 1 := hs0
  clear hs0
  have B := Lib.hid (((HB0.out.alloc (by omega) (.cells Z 123)).alloc (by simp; omega) (.cells (Ent.cells ⟨k, p, l, m, u, g, t, us, gr, b⟩).toArray 44)))
  have E1 := Lib.hid (EntO.new (w1.alloc (.cells Z 123)) ⟨k, p, l, m, u, g, t, us, gr, b⟩)
  have HD := Lib.hid (HD0.out.below ((Below.refl w1.heap.size w1).alloc (Nat.le_refl _) (.cells Z 123)) Hlt0)
  have HD2 := Lib.hid (HD.out.below ((Below.refl (w1.alloc (.cells Z 123)).heap.size (w1.alloc (.cells Z 123))).alloc (Nat.le_refl _) (.cells (Ent.cells ⟨k, p, l, m, u, g, t, us, gr, b⟩).toArray 44)) HD.out.lt)
  have K1 := Lib.hid ((K0.out w1).below ((Below.refl (w1.alloc (.cells Z 123)).heap.size (w1.alloc (.cells Z 123))).alloc (Nat.le_refl _) (.cells (Ent.cells ⟨k, p, l, m, u, g, t, us, gr, b⟩).toArray 44)) (by simp))
  rw [show (w1.alloc (.cells Z 123)).heap.size = w.heap.size + 1 + 1 from by simp [hs1]] at E1
  rw [hs1] at K1
  replace HD := HD2
  clear HD2 HD0 HB0 Hlt0 K0
  simp only [Ent.cells] at B E1 HD K1
  generalize (w1.alloc (.cells Z 123)).alloc (.cells #[.int .i64 k, .string p, .string l, .int .i64 m, .int .i64 u, .int .i64 g, .int .i64 t, .string us, .string gr, .string b] 44) = w2 at *
  have K := Lib.hid (show BlkF w2 (w.heap.size + 1) [nuls 100, nuls 8, nuls 8, nuls 8, nuls 12, nuls 12, nuls 8, nuls 1, nuls 100, nuls 8, nuls 32, nuls 32, nuls 8, nuls 8, nuls 155, nuls 12] from ⟨F0_wf, by show Blk w2 _ (flat F0); rw [F0_flat]; exact K1.out⟩)
  clear K1 hz
  refine (put_t (w.heap.size + 1) 0 100 [nuls 100, nuls 8, nuls 8, nuls 8, nuls 12, nuls 12, nuls 8, nuls 1, nuls 100, nuls 8, nuls 32, nuls 32, nuls 8, nuls 8, nuls 155, nuls 12] p _ (by omega) rfl rfl (by omega) (HF.out.below B.out) K.out).mono ?_
  rintro e w' ⟨rfl, hk, -, hb⟩
  replace B := Lib.hid (B.out.trans (grown_below hb (by omega) K.out.2.lt))
  replace E1 := Lib.hid (E1.out.grown hb (by simp))
  replace HD := Lib.hid (HD.out.grown hb (by simp))
  replace K := Lib.hid (show BlkF w' _ [(fillv p 100).data.toList, nuls 8, nuls 8, nuls 8, nuls 12, nuls 12, nuls 8, nuls 1, nuls 100, nuls 8, nuls 32, nuls 32, nuls 8, nuls 8, nuls 155, nuls 12] from hk)
  clear hk hb
  obtain ⟨_, _, _, c3, _, _, _, _, _, _⟩ := (E1.out.at).zero
  go_wp2_with fail
  refine (putNum_z (w.heap.size + 1) 1 8 [(fillv p 100).data.toList, nuls 8, nuls 8, nuls 8, nuls 12, nuls 12, nuls 8, nuls 1, nuls 100, nuls 8, nuls 32, nuls 32, nuls 8, nuls 8, nuls 155, nuls 12] m _ (by omega) rfl (by omega) (by omega) nm rfl (HT.out.below B.out) (HF.out.below B.out) K.out).mono ?_
  rintro e w' ⟨rfl, hk, -, hb⟩
  replace B := Lib.hid (B.out.trans (grown_below hb (by omega) K.out.2.lt))
  replace E1 := Lib.hid (E1.out.grown hb (by simp))
  replace HD := Lib.hid (HD.out.grown hb (by simp))
  replace K := Lib.hid (show BlkF w' _ [(fillv p 100).data.toList, (numz m 8).data.toList, nuls 8, nuls 8, nuls 12, nuls 12, nuls 8, nuls 1, nuls 100, nuls 8, nuls 32, nuls 32, nuls 8, nuls 8, nuls 155, nuls 12] from hk)
  clear hk hb c3
  obtain ⟨_, _, _, _, c4, _, _, _, _, _⟩ := (E1.out.at).zero
  go_wp2_with fail
  refine (putNum_z (w.heap.size + 1) 2 8 [(fillv p 100).data.toList, (numz m 8).data.toList, nuls 8, nuls 8, nuls 12, nuls 12, nuls 8, nuls 1, nuls 100, nuls 8, nuls 32, nuls 32, nuls 8, nuls 8, nuls 155, nuls 12] u _ (by omega) rfl (by omega) (by omega) nu rfl (HT.out.below B.out) (HF.out.below B.out) K.out).mono ?_
  rintro e w' ⟨rfl, hk, -, hb⟩
  replace B := Lib.hid (B.out.trans (grown_below hb (by omega) K.out.2.lt))
  replace E1 := Lib.hid (E1.out.grown hb (by simp))
  replace HD := Lib.hid (HD.out.grown hb (by simp))
  replace K := Lib.hid (show BlkF w' _ [(fillv p 100).data.toList, (numz m 8).data.toList, (numz u 8).data.toList, nuls 8, nuls 12, nuls 12, nuls 8, nuls 1, nuls 100, nuls 8, nuls 32, nuls 32, nuls 8, nuls 8, nuls 155, nuls 12] from hk)
  clear hk hb c4
  obtain ⟨_, _, _, _, _, c5, _, _, _, _⟩ := (E1.out.at).zero
  go_wp2_with fail
  refine (putNum_z (w.heap.size + 1) 3 8 [(fillv p 100).data.toList, (numz m 8).data.toList, (numz u 8).data.toList, nuls 8, nuls 12, nuls 12, nuls 8, nuls 1, nuls 100, nuls 8, nuls 32, nuls 32, nuls 8, nuls 8, nuls 155, nuls 12] g _ (by omega) rfl (by omega) (by omega) ng rfl (HT.out.below B.out) (HF.out.below B.out) K.out).mono ?_
  rintro e w' ⟨rfl, hk, -, hb⟩
  replace B := Lib.hid (B.out.trans (grown_below hb (by omega) K.out.2.lt))
  replace E1 := Lib.hid (E1.out.grown hb (by simp))
  replace HD := Lib.hid (HD.out.grown hb (by simp))
  replace K := Lib.hid (show BlkF w' _ [(fillv p 100).data.toList, (numz m 8).data.toList, (numz u 8).data.toList, (numz g 8).data.toList, nuls 12, nuls 12, nuls 8, nuls 1, nuls 100, nuls 8, nuls 32, nuls 32, nuls 8, nuls 8, nuls 155, nuls 12] from hk)
  clear hk hb c5
  obtain ⟨_, c11⟩ := HD.out.two
  go_wp2_with fail
  refine (putNum_z (w.heap.size + 1) 4 12 [(fillv p 100).data.toList, (numz m 8).data.toList, (numz u 8).data.toList, (numz g 8).data.toList, nuls 12, nuls 12, nuls 8, nuls 1, nuls 100, nuls 8, nuls 32, nuls 32, nuls 8, nuls 8, nuls 155, nuls 12] sz _ (by omega) rfl (by omega) (by omega) ns rfl (HT.out.below B.out) (HF.out.below B.out) K.out).mono ?_
  rintro e w' ⟨rfl, hk, -, hb⟩
  replace B := Lib.hid (B.out.trans (grown_below hb (by omega) K.out.2.lt))
  replace E1 := Lib.hid (E1.out.grown hb (by simp))
  replace HD := Lib.hid (HD.out.grown hb (by simp))
  replace K := Lib.hid (show BlkF w' _ [(fillv p 100).data.toList, (numz m 8).data.toList, (numz u 8).data.toList, (numz g 8).data.toList, (numz sz 12).data.toList, nuls 12, nuls 8, nuls 1, nuls 100, nuls 8, nuls 32, nuls 32, nuls 8, nuls 8, nuls 155, nuls 12] from hk)
  clear hk hb c11
  obtain ⟨_, _, _, _, _, _, c6, _, _, _⟩ := (E1.out.at).zero
  go_wp2_with fail
  refine (putNum_z (w.heap.size + 1) 5 12 [(fillv p 100).data.toList, (numz m 8).data.toList, (numz u 8).data.toList, (numz g 8).data.toList, (numz sz 12).data.toList, nuls 12, nuls 8, nuls 1, nuls 100, nuls 8, nuls 32, nuls 32, nuls 8, nuls 8, nuls 155, nuls 12] t _ (by omega) rfl (by omega) (by omega) nt rfl (HT.out.below B.out) (HF.out.below B.out) K.out).mono ?_
  rintro e w' ⟨rfl, hk, -, hb⟩
  replace B := Lib.hid (B.out.trans (grown_below hb (by omega) K.out.2.lt))
  replace E1 := Lib.hid (E1.out.grown hb (by simp))
  replace HD := Lib.hid (HD.out.grown hb (by simp))
  replace K := Lib.hid (show BlkF w' _ [(fillv p 100).data.toList, (numz m 8).data.toList, (numz u 8).data.toList, (numz g 8).data.toList, (numz sz 12).data.toList, (numz t 12).data.toList, nuls 8, nuls 1, nuls 100, nuls 8, nuls 32, nuls 32, nuls 8, nuls 8, nuls 155, nuls 12] from hk)
  clear hk hb c6
  obtain ⟨c10, _⟩ := HD.out.two
  go_wp2_with fail
  refine (put_t (w.heap.size + 1) 7 1 [(fillv p 100).data.toList, (numz m 8).data.toList, (numz u 8).data.toList, (numz g 8).data.toList, (numz sz 12).data.toList, (numz t 12).data.toList, nuls 8, nuls 1, nuls 100, nuls 8, nuls 32, nuls 32, nuls 8, nuls 8, nuls 155, nuls 12] fl _ (by omega) rfl rfl (by omega) (HF.out.below B.out) K.out).mono ?_
  rintro e w' ⟨rfl, hk, -, hb⟩
  replace B := Lib.hid (B.out.trans (grown_below hb (by omega) K.out.2.lt))
  replace E1 := Lib.hid (E1.out.grown hb (by simp))
  replace HD := Lib.hid (HD.out.grown hb (by simp))
  replace K := Lib.hid (show BlkF w' _ [(fillv p 100).data.toList, (numz m 8).data.toList, (numz u 8).data.toList, (numz g 8).data.toList, (numz sz 12).data.toList, (numz t 12).data.toList, nuls 8, (fillv fl 1).data.toList, nuls 100, nuls 8, nuls 32, nuls 32, nuls 8, nuls 8, nuls 155, nuls 12] from hk)
  clear hk hb c10
  obtain ⟨_, _, c2, _, _, _, _, _, _, _⟩ := (E1.out.at).zero
  go_wp2_with fail
  refine (put_t (w.heap.size + 1) 8 100 [(fillv p 100).data.toList, (numz m 8).data.toList, (numz u 8).data.toList, (numz g 8).data.toList, (numz sz 12).data.toList, (numz t 12).data.toList, nuls 8, (fillv fl 1).data.toList, nuls 100, nuls 8, nuls 32, nuls 32, nuls 8, nuls 8, nuls 155, nuls 12] l _ (by omega) rfl rfl (by omega) (HF.out.below B.out) K.out).mono ?_
  rintro e w' ⟨rfl, hk, -, hb⟩
  replace B := Lib.hid (B.out.trans (grown_below hb (by omega) K.out.2.lt))
  replace E1 := Lib.hid (E1.out.grown hb (by simp))
  replace HD := Lib.hid (HD.out.grown hb (by simp))
  replace K := Lib.hid (show BlkF w' _ [(fillv p 100).data.toList, (numz m 8).data.toList, (numz u 8).data.toList, (numz g 8).data.toList, (numz sz 12).data.toList, (numz t 12).data.toList, nuls 8, (fillv fl 1).data.toList, (fillv l 100).data.toList, nuls 8, nuls 32, nuls 32, nuls 8, nuls 8, nuls 155, nuls 12] from hk)
  clear hk hb c2
  go_wp2_with fail
  refine (put_t (w.heap.size + 1) 9 8 [(fillv p 100).data.toList, (numz m 8).data.toList, (numz u 8).data.toList, (numz g 8).data.toList, (numz sz 12).data.toList, (numz t 12).data.toList, nuls 8, (fillv fl 1).data.toList, (fillv l 100).data.toList, nuls 8, nuls 32, nuls 32, nuls 8, nuls 8, nuls 155, nuls 12] mg _ (by omega) rfl rfl (by omega) (HF.out.below B.out) K.out).mono ?_
  rintro e w' ⟨rfl, hk, -, hb⟩
  replace B := Lib.hid (B.out.trans (grown_below hb (by omega) K.out.2.lt))
  replace E1 := Lib.hid (E1.out.grown hb (by simp))
  replace HD := Lib.hid (HD.out.grown hb (by simp))
  replace K := Lib.hid (show BlkF w' _ [(fillv p 100).data.toList, (numz m 8).data.toList, (numz u 8).data.toList, (numz g 8).data.toList, (numz sz 12).data.toList, (numz t 12).data.toList, nuls 8, (fillv fl 1).data.toList, (fillv l 100).data.toList, (fillv mg 8).data.toList, nuls 32, nuls 32, nuls 8, nuls 8, nuls 155, nuls 12] from hk)
  clear hk hb
  obtain ⟨_, _, _, _, _, _, _, c7, _, _⟩ := (E1.out.at).zero
  go_wp2_with fail
  refine (put_t (w.heap.size + 1) 10 32 [(fillv p 100).data.toList, (numz m 8).data.toList, (numz u 8).data.toList, (numz g 8).data.toList, (numz sz 12).data.toList, (numz t 12).data.toList, nuls 8, (fillv fl 1).data.toList, (fillv l 100).data.toList, (fillv mg 8).data.toList, nuls 32, nuls 32, nuls 8, nuls 8, nuls 155, nuls 12] us _ (by omega) rfl rfl (by omega) (HF.out.below B.out) K.out).mono ?_
  rintro e w' ⟨rfl, hk, -, hb⟩
  replace B := Lib.hid (B.out.trans (grown_below hb (by omega) K.out.2.lt))
  replace E1 := Lib.hid (E1.out.grown hb (by simp))
  replace HD := Lib.hid (HD.out.grown hb (by simp))
  replace K := Lib.hid (show BlkF w' _ [(fillv p 100).data.toList, (numz m 8).data.toList, (numz u 8).data.toList, (numz g 8).data.toList, (numz sz 12).data.toList, (numz t 12).data.toList, nuls 8, (fillv fl 1).data.toList, (fillv l 100).data.toList, (fillv mg 8).data.toList, (fillv us 32).data.toList, nuls 32, nuls 8, nuls 8, nuls 155, nuls 12] from hk)
  clear hk hb c7
  obtain ⟨_, _, _, _, _, _, _, _, c8, _⟩ := (E1.out.at).zero
  go_wp2_with fail
  refine (put_t (w.heap.size + 1) 11 32 [(fillv p 100).data.toList, (numz m 8).data.toList, (numz u 8).data.toList, (numz g 8).data.toList, (numz sz 12).data.toList, (numz t 12).data.toList, nuls 8, (fillv fl 1).data.toList, (fillv l 100).data.toList, (fillv mg 8).data.toList, (fillv us 32).data.toList, nuls 32, nuls 8, nuls 8, nuls 155, nuls 12] gr _ (by omega) rfl rfl (by omega) (HF.out.below B.out) K.out).mono ?_
  rintro e w' ⟨rfl, hk, -, hb⟩
  replace B := Lib.hid (B.out.trans (grown_below hb (by omega) K.out.2.lt))
  replace E1 := Lib.hid (E1.out.grown hb (by simp))
  replace HD := Lib.hid (HD.out.grown hb (by simp))
  replace K := Lib.hid (show BlkF w' _ [(fillv p 100).data.toList, (numz m 8).data.toList, (numz u 8).data.toList, (numz g 8).data.toList, (numz sz 12).data.toList, (numz t 12).data.toList, nuls 8, (fillv fl 1).data.toList, (fillv l 100).data.toList, (fillv mg 8).data.toList, (fillv us 32).data.toList, (fillv gr 32).data.toList, nuls 8, nuls 8, nuls 155, nuls 12] from hk)
  clear hk hb c8
  go_wp2_with fail
  refine (putNum_z (w.heap.size + 1) 12 8 [(fillv p 100).data.toList, (numz m 8).data.toList, (numz u 8).data.toList, (numz g 8).data.toList, (numz sz 12).data.toList, (numz t 12).data.toList, nuls 8, (fillv fl 1).data.toList, (fillv l 100).data.toList, (fillv mg 8).data.toList, (fillv us 32).data.toList, (fillv gr 32).data.toList, nuls 8, nuls 8, nuls 155, nuls 12] 0 _ (by omega) rfl (by omega) (by omega) (by omega) rfl (HT.out.below B.out) (HF.out.below B.out) K.out).mono ?_
  rintro e w' ⟨rfl, hk, -, hb⟩
  replace B := Lib.hid (B.out.trans (grown_below hb (by omega) K.out.2.lt))
  replace E1 := Lib.hid (E1.out.grown hb (by simp))
  replace HD := Lib.hid (HD.out.grown hb (by simp))
  replace K := Lib.hid (show BlkF w' _ [(fillv p 100).data.toList, (numz m 8).data.toList, (numz u 8).data.toList, (numz g 8).data.toList, (numz sz 12).data.toList, (numz t 12).data.toList, nuls 8, (fillv fl 1).data.toList, (fillv l 100).data.toList, (fillv mg 8).data.toList, (fillv us 32).data.toList, (fillv gr 32).data.toList, (numz 0 8).data.toList, nuls 8, nuls 155, nuls 12] from hk)
  clear hk hb
  go_wp2_with fail
  refine (putNum_z (w.heap.size + 1) 13 8 [(fillv p 100).data.toList, (numz m 8).data.toList, (numz u 8).data.toList, (numz g 8).data.toList, (numz sz 12).data.toList, (numz t 12).data.toList, nuls 8, (fillv fl 1).data.toList, (fillv l 100).data.toList, (fillv mg 8).data.toList, (fillv us 32).data.toList, (fillv gr 32).data.toList, (numz 0 8).data.toList, nuls 8, nuls 155, nuls 12] 0 _ (by omega) rfl (by omega) (by omega) (by omega) rfl (HT.out.below B.out) (HF.out.below B.out) K.out).mono ?_
  rintro e w' ⟨rfl, hk, -, hb⟩
  replace B := Lib.hid (B.out.trans (grown_below hb (by omega) K.out.2.lt))
  replace E1 := Lib.hid (E1.out.grown hb (by simp))
  replace HD := Lib.hid (HD.out.grown hb (by simp))
  replace K := Lib.hid (show BlkF w' _ [(fillv p 100).data.toList, (numz m 8).data.toList, (numz u 8).data.toList, (numz g 8).data.toList, (numz sz 12).data.toList, (numz t 12).data.toList, nuls 8, (fillv fl 1).data.toList, (fillv l 100).data.toList, (fillv mg 8).data.toList, (fillv us 32).data.toList, (fillv gr 32).data.toList, (numz 0 8).data.toList, (numz 0 8).data.toList, nuls 155, nuls 12] from hk)
  clear hk hb
  go_wp2_with fail
  refine (put_t (w.heap.size + 1) 14 155 [(fillv p 100).data.toList, (numz m 8).data.toList, (numz u 8).data.toList, (numz g 8).data.toList, (numz sz 12).data.toList, (numz t 12).data.toList, nuls 8, (fillv fl 1).data.toList, (fillv l 100).data.toList, (fillv mg 8).data.toList, (fillv us 32).data.toList, (fillv gr 32).data.toList, (numz 0 8).data.toList, (numz 0 8).data.toList, nuls 155, nuls 12] sp _ (by omega) rfl rfl (by omega) (HF.out.below B.out) K.out).mono ?_
  rintro e w' ⟨rfl, hk, -, hb⟩
  replace B := Lib.hid (B.out.trans (grown_below hb (by omega) K.out.2.lt))
  replace E1 := Lib.hid (E1.out.grown hb (by simp))
  replace HD := Lib.hid (HD.out.grown hb (by simp))
  replace K := Lib.hid (show BlkF w' _ [(fillv p 100).data.toList, (numz m 8).data.toList, (numz u 8).data.toList, (numz g 8).data.toList, (numz sz 12).data.toList, (numz t 12).data.toList, nuls 8, (fillv fl 1).data.toList, (fillv l 100).data.toList, (fillv mg 8).data.toList, (fillv us 32).data.toList, (fillv gr 32).data.toList, (numz 0 8).data.toList, (numz 0 8).data.toList, (fillv sp 155).data.toList, nuls 12] from hk)
  clear hk hb
  have e7 : fillv fl 1 = fl := by rw [fillv, if_pos (.inr (by omega))]
  have e9 : fillv mg 8 = mg := by rw [fillv, if_pos (.inr (by omega))]
  replace K := Lib.hid (show BlkF _ _ [(fillv p 100).data.toList, (numz m 8).data.toList, (numz u 8).data.toList, (numz g 8).data.toList, (numz sz 12).data.toList, (numz t 12).data.toList, nuls 8, fl.data.toList, (fillv l 100).data.toList, mg.data.toList, (fillv us 32).data.toList, (fillv gr 32).data.toList, (numz 0 8).data.toList, (numz 0 8).data.toList, (fillv sp 155).data.toList, nuls 12] by have h := K.out; rw [e7, e9] at h; exact h)
  clear e7 e9
  have hc := K.out.2.conv
  have hKl := K.out.2.1
  obtain ⟨X, hX⟩ : ∃ X, X = flat [(fillv p 100).data.toList, (numz m 8).data.toList, (numz u 8).data.toList, (numz g 8).data.toList, (numz sz 12).data.toList, (numz t 12).data.toList, nuls 8, fl.data.toList, (fillv l 100).data.toList, mg.data.toList, (fillv us 32).data.toList, (fillv gr 32).data.toList, (numz 0 8).data.toList, (numz 0 8).data.toList, (fillv sp 155).data.toList, nuls 12] := ⟨_, rfl⟩
  rw [← hX] at hc hKl
  have HS := Lib.hid (fun w hT hF => sumText_any ⟨X.toArray⟩ w (by rw [ba_size]; omega) hT hF)
  have lens := K.out.1
  simp only [WF, List.map_cons, List.map_nil, widths, List.cons_append, List.nil_append, List.cons.injEq] at lens
  have lA : hA.data.toList.length = 148 := by
    rw [HA.out]
    simp only [List.length_append]
    omega
  have lB : hB.data.toList.length = 356 := by
    rw [HB.out]
    simp only [List.length_append]
    omega
  have HXe : Hid (headSumv ⟨X.toArray⟩ = sumv hA.data.toList + 256 + sumv hB.data.toList) := Lib.hid (by
    rw [← head_sum lA lB, hX, HA.out, HB.out]
    simp [flat])
  rw [HXe.out] at HS
  have bd := headSum_bd ⟨X.toArray⟩
  rw [HXe.out] at bd
  have bA := sumv_bd hA.data.toList
  have bB := sumv_bd hB.data.toList
  have bs : 0 ≤ sumv hA.data.toList + 256 + sumv hB.data.toList := by omega
  generalize sumv hA.data.toList + 256 + sumv hB.data.toList = sm at HS bd bs HV
  obtain ⟨_, zd, _⟩ := oct_fits (n := sm) (k := 6) (by omega) (by omega) (by omega) (by have : (8 : Nat) ^ 6 = 262144 := (by decide); omega)
  have zd' : (putOctv sm 6).1.size = 6 := zd
  have HST : Hid ((fillv ((putOctv sm 6).1 ++ ⟨#[0, 32]⟩) 8) = (putOctv sm 6).1 ++ ⟨#[0, 32]⟩) := Lib.hid (by rw [fillv, if_pos (.inr (by rw [ByteArray.size_append, zd']; decide))])
  have zst : ((putOctv sm 6).1 ++ (⟨#[0, 32]⟩ : ByteArray)).size ≤ 8 := by rw [ByteArray.size_append, zd']; decide
  have HR : Hid (∀ F : List UInt8, F = flat [(fillv p 100).data.toList, (numz m 8).data.toList, (numz u 8).data.toList, (numz g 8).data.toList, (numz sz 12).data.toList, (numz t 12).data.toList, ((putOctv sm 6).1 ++ (⟨#[0, 32]⟩ : ByteArray)).data.toList, fl.data.toList, (fillv l 100).data.toList, mg.data.toList, (fillv us 32).data.toList, (fillv gr 32).data.toList, (numz 0 8).data.toList, (numz 0 8).data.toList, (fillv sp 155).data.toList, nuls 12] → (⟨F.toArray⟩ : ByteArray) = r) := Lib.hid (by
    rintro F rfl
    apply ba_ext
    rw [HV.out]
    simp only [ByteArray.data_append, Array.toList_append, HA.out, HB.out]
    simp [flat])
  generalize (putOctv sm 6).1 ++ (⟨#[0, 32]⟩ : ByteArray) = st at *
  clear HV HA HB HXe hX lens lA lB bA bB bd zd zd' hKl
  go_wp2_with fail
  refine (HS.out _ (HT.out.below B.out) (HF.out.below B.out)).mono ?_
  rintro e w3 ⟨rfl, hb⟩
  have K3 := Lib.hid (K.out.below hb K.out.2.lt)
  have B3 := Lib.hid (B.out.trans (hb.mono B.out.size))
  clear hb hc K B
  go_wp2_with fail
  refine (put_t (w.heap.size + 1) 6 8 _ st _ (by omega) rfl rfl zst (HF.out.below B3.out) K3.out).mono ?_
  rintro e w4 ⟨rfl, hk, -, hb⟩
  have B4 := Lib.hid (B3.out.trans (grown_below hb (by omega) K3.out.2.lt))
  rw [show fillv st ((8 : Nat) : Int) = st from HST.out] at hk
  have hc := (hk.2.conv).trans (congrArg (fun x => Result.ok (Value.string x) w4) (HR.out _ rfl))
  clear hk hb B3 K3 HS
  go_wp2
  go_ret
  exact ⟨rfl, B4.out⟩
end Go.Proofs.YtancidbbkoeokabGreatDoor

/- Contracts of impl.headOk and impl.PutHead. -/
namespace Go.Proofs.YtancidbbkoeokabGreatDoor
open Go.ChangeShapes Go.WideShapes Go.ChangeAt Go.RowKit Go.Deep

def hokv (fl : ByteArray) (sz : Int) : Bool := decide (fl.size = 1) && inB sz 0 3000
theorem hok_iff {fl : ByteArray} {sz : Int} : hokv fl sz = true ↔ fl.size = 1 ∧ (0 ≤ sz ∧ sz ≤ 3000) := by
  rw [hokv, Bool.and_eq_true, decide_eq_true_eq]
  constructor
  · rintro ⟨h1, h2⟩
    refine ⟨h1, ?_⟩
    by_cases q : 0 ≤ sz ∧ sz ≤ 3000
    · exact q
    · rw [inB_f q] at h2; cases h2
  · rintro ⟨h1, h2⟩
    exact ⟨h1, inB_t h2⟩
theorem headOkI_any (fl : ByteArray) (sz : Int) (w : World) : Calls Tryz.prog 118 #[.string fl, .int .i64 sz] w fun e w' => e = .returned (.bool (hokv fl sz)) ∧ w = w' := by
  have H2 := Lib.hid (fun w => upTo_any sz 3000 w)
  by_cases h1 : (fl.size : Int) = 1
  · have HE : Hid (hokv fl sz = inB sz 0 3000) := Lib.hid (by rw [hokv, decide_eq_true (by omega)]; rfl)
    generalize hokv fl sz = r at *
    generalize inB sz 0 3000 = q at *
    go_enter Tryz.func118, Tryz.ntmps118
    go_wp2_with fail
    refine (H2.out _).mono ?_
    rintro e w1 ⟨rfl, rfl⟩
    go_wp2
    go_ret
    exact ⟨ret_bool HE.out.symm, rfl⟩
  · have HE : Hid (hokv fl sz = false) := Lib.hid (by rw [hokv, decide_eq_false (by omega)]; rfl)
    generalize hokv fl sz = r at *
    clear H2
    go_enter Tryz.func118, Tryz.ntmps118
    go_wp2
    go_ret
    exact ⟨ret_bool HE.out.symm, rfl⟩
theorem putHead_no {e : Ent} {flag : ByteArray} {size : Int} (h : ¬ (fitsv e = true ∧ flag.size = 1 ∧ (0 ≤ size ∧ size ≤ 3000))) : putHeadv e flag size = ⟨#[]⟩ := by rw [putHeadv, if_neg h]
set_option maxHeartbeats 6400000 in
set_option maxRecDepth 8000 in
theorem putHead_yes (k : Int) (p l : ByteArray) (m u g t : Int) (us gr b fl : ByteArray) (sz : Int) (w : World) (hp : p.size ≤ 4194304) (hl : l.size ≤ 4194304) (hus : us.size ≤ 4194304) (hgr : gr.size ≤ 4194304) (hfit : fitsv ⟨k, p, l, m, u, g, t, us, gr, b⟩ = true) (hfl : fl.size = 1) (hs : 0 ≤ sz ∧ sz ≤ 3000) (hT : Tabs w) (hF : FW w) :
    Calls Tryz.prog 80 #[.agg #[.int .i64 k, .string p, .string l, .int .i64 m, .int .i64 u, .int .i64 g, .int .i64 t, .string us, .string gr, .string b], .string fl, .int .i64 sz] w fun e w' => e = .returned (.string (headv ⟨k, p, l, m, u, g, t, us, gr, b⟩ (splitN p) (splitP p) fl sz magicU)) ∧ Below w.heap.size w w' := by
  have H1 := Lib.hid (fun w => fits_impl k p l m u g t us gr b w hp hl hus hgr)
  rw [hfit] at H1
  have H2 := Lib.hid (fun w => headOkI_any fl sz w)
  rw [hok_iff.2 ⟨hfl, hs⟩] at H2
  have H3 := Lib.hid (fun w => split_impl p w hp)
  obtain ⟨nm, nu, ng, nt, zl, zus, zgr, hso⟩ := fits_nums hfit
  simp only at nm nu ng nt zl zus zgr hso
  obtain ⟨zn, zp⟩ := split_sizes hso
  have H4 := Lib.hid (fun w hT hF => headText_impl k (splitN p) l m u g t us gr b fl sz (splitP p) magicU w zn zl zus zgr hfl zp (by decide) (by omega) (by omega) (by omega) (by omega) (by omega) hT hF)
  have hv : hdv ⟨k, splitN p, l, m, u, g, t, us, gr, b⟩ (splitN p) (splitP p) fl sz magicU = headv ⟨k, p, l, m, u, g, t, us, gr, b⟩ (splitN p) (splitP p) fl sz magicU :=
    (hdv_head (e := ⟨k, splitN p, l, m, u, g, t, us, gr, b⟩) nm nu ng nt hs).trans rfl
  rw [hv, show magicU = ⟨#[117, 115, 116, 97, 114, 0, 48, 48]⟩ from rfl] at H4
  rw [show magicU = ⟨#[117, 115, 116, 97, 114, 0, 48, 48]⟩ from rfl]
  generalize headv ⟨k, p, l, m, u, g, t, us, gr, b⟩ (splitN p) (splitP p) fl sz ⟨#[117, 115, 116, 97, 114, 0, 48, 48]⟩ = r at *
  generalize splitN p = sn at *
  generalize splitP p = sp at *
  generalize splitOk p = so at *
  have HF := Lib.hid hF
  have HT := Lib.hid hT
  clear hv hF hT hfit hp hl hus hgr hfl zn zp nm nu ng nt zl zus zgr hso hs
  go_enter Tryz.func80, Tryz.ntmps80
  go_wp2_with fail
  have E0 := Lib.hid (EntO.new w ⟨k, p, l, m, u, g, t, us, gr, b⟩)
  have B0 := Lib.hid ((Below.refl w.heap.size w).alloc (Nat.le_refl _) (.cells (Ent.cells ⟨k, p, l, m, u, g, t, us, gr, b⟩).toArray 44))
  have z0 := E0.out.lt
  simp only [Ent.cells] at E0 B0 z0
  generalize w.alloc (.cells #[.int .i64 k, .string p, .string l, .int .i64 m, .int .i64 u, .int .i64 g, .int .i64 t, .string us, .string gr, .string b] 44) = w0 at *
  refine (H1.out _).mono ?_
  rintro e w1 ⟨rfl, hb⟩
  have E1 := Lib.hid (E0.out.below hb z0)
  have B1 := Lib.hid (btE B0.out hb)
  clear hb E0 B0 H1 z0
  go_wp2_with fail
  refine (H2.out _).mono ?_
  rintro e w2 ⟨rfl, rfl⟩
  obtain ⟨_, c1, _⟩ := E1.out.at.zero
  go_wp2_with fail
  refine (H3.out _).mono ?_
  rintro e w2 ⟨rfl, hb⟩
  have E2 := Lib.hid (E1.out.below hb E1.out.lt)
  have B2 := Lib.hid (btE B1.out hb)
  clear hb c1 E1 B1 H2 H3
  obtain ⟨_, c1, _⟩ := E2.out.at.zero
  have hfz := E2.out.fz 1
  have E3 := Lib.hid (E2.out.set (e' := ⟨k, sn, l, m, u, g, t, us, gr, b⟩) 1 (.string sn) rfl)
  have B3 := Lib.hid (B2.out.setCell (p := ⟨w.heap.size, 1, none⟩) (Nat.le_refl _) (.string sn))
  have q := fun w' (h : EntO w' w.heap.size ⟨k, sn, l, m, u, g, t, us, gr, b⟩) => run_loadVar_row (P := Tryz.prog) w' w.heap.size 44 44 _ (0, 0) _ h Tryz.underlying44 rfl (by rw [Tryz.sizeEntO]; rfl)
  have q2 := Lib.hid (q _ E3.out)
  clear q
  go_wp2_with ((with_reducible refine wpList_load_eq rfl 44 _ _ rfl ⟨w.heap.size, 0, none⟩ ?_ q2.out ?_); rfl)
  refine (H4.out _ (HT.out.below B3.out) (HF.out.below B3.out)).mono ?_
  rintro e w4 ⟨rfl, hb⟩
  go_wp2
  go_ret
  exact ⟨rfl, btE B3.out hb⟩
set_option maxHeartbeats 1600000 in
theorem putHead_impl (k : Int) (p l : ByteArray) (m u g t : Int) (us gr b fl : ByteArray) (sz : Int) (w : World) (hp : p.size ≤ 4194304) (hl : l.size ≤ 4194304) (hus : us.size ≤ 4194304) (hgr : gr.size ≤ 4194304) (hT : Tabs w) (hF : FW w) :
    Calls Tryz.prog 80 #[.agg #[.int .i64 k, .string p, .string l, .int .i64 m, .int .i64 u, .int .i64 g, .int .i64 t, .string us, .string gr, .string b], .string fl, .int .i64 sz] w fun e w' => e = .returned (.string (putHeadv ⟨k, p, l, m, u, g, t, us, gr, b⟩ fl sz)) ∧ Below w.heap.size w w' := by
  by_cases hy : fitsv ⟨k, p, l, m, u, g, t, us, gr, b⟩ = true ∧ fl.size = 1 ∧ (0 ≤ sz ∧ sz ≤ 3000)
  · rw [putHeadv, if_pos hy]
    exact putHead_yes k p l m u g t us gr b fl sz w hp hl hus hgr hy.1 hy.2.1 hy.2.2 hT hF
  · have HE := Lib.hid (putHead_no hy)
    have H1 := Lib.hid (fun w => fits_impl k p l m u g t us gr b w hp hl hus hgr)
    have H2 := Lib.hid (fun w => headOkI_any fl sz w)
    have hh : fitsv ⟨k, p, l, m, u, g, t, us, gr, b⟩ = true → hokv fl sz = false := fun h => by
      cases hq : hokv fl sz with
      | false => rfl
      | true => exact absurd ⟨h, hok_iff.1 hq⟩ hy
    generalize putHeadv ⟨k, p, l, m, u, g, t, us, gr, b⟩ fl sz = r at HE
    generalize fitsv ⟨k, p, l, m, u, g, t, us, gr, b⟩ = bf at H1 hy hh
    clear hT hF hp hl hus hgr hy
    cases bf with
    | false =>
      clear hh
      go_enter Tryz.func80, Tryz.ntmps80
      go_wp2_with fail
      refine (H1.out _).mono ?_
      rintro e w1 ⟨rfl, hb⟩
      obtain ⟨-, bb1, -⟩ := one_new (e1 := ⟨k, p, l, m, u, g, t, us, gr, b⟩) hb
      have B1 := Lib.hid bb1
      clear hb bb1
      go_wp2
      go_ret
      exact ⟨ret_str HE.out.symm, B1.out⟩
    | true =>
      rw [hh rfl] at H2
      clear hh
      go_enter Tryz.func80, Tryz.ntmps80
      go_wp2_with fail
      refine (H1.out _).mono ?_
      rintro e w1 ⟨rfl, hb⟩
      obtain ⟨-, bb1, -⟩ := one_new (e1 := ⟨k, p, l, m, u, g, t, us, gr, b⟩) hb
      have B1 := Lib.hid bb1
      clear hb bb1
      go_wp2_with fail
      refine (H2.out _).mono ?_
      rintro e w2 ⟨rfl, rfl⟩
      go_wp2
      go_ret
      exact ⟨ret_str HE.out.symm, B1.out⟩
end Go.Proofs.YtancidbbkoeokabGreatDoor

/- Contracts of spec.Flag, impl.Flag, spec.Kind, impl.Kind. -/
namespace Go.Proofs.YtancidbbkoeokabGreatDoor
open Go.ChangeShapes Go.WideShapes Go.ChangeAt Go.RowKit

def flagv (k : Int) : ByteArray := if k = 0 then ⟨#[48]⟩ else if k = 1 then ⟨#[53]⟩ else if k = 2 then ⟨#[50]⟩ else if k = 3 then ⟨#[49]⟩ else ⟨#[]⟩
def kindv (s : ByteArray) : Int := if s = ⟨#[48]⟩ then 0 else if s = ⟨#[53]⟩ then 1 else if s = ⟨#[50]⟩ then 2 else if s = ⟨#[49]⟩ then 3 else -1
theorem flag_out {k : Int} (h : ¬ (0 ≤ k ∧ k ≤ 3)) : flagv k = ⟨#[]⟩ := by
  unfold flagv
  rw [if_neg (by omega), if_neg (by omega), if_neg (by omega), if_neg (by omega)]
theorem four {k : Int} (h : 0 ≤ k ∧ k ≤ 3) : k = 0 ∨ k = 1 ∨ k = 2 ∨ k = 3 := by omega

theorem flag_spec (k : Int) (w : World) :
    Calls Tryz.prog 49 #[.int .i64 k] w fun e w' => e = .returned (.string (flagv k)) ∧ Below w.heap.size w w' := by
  by_cases h : 0 ≤ k ∧ k ≤ 3
  · have Ha := Lib.hid (fun w => in_any k 0 3 w)
    rw [inB_t h] at Ha
    rcases four h with rfl | rfl | rfl | rfl
    all_goals
      go_enter Tryz.func49, Tryz.ntmps49
      go_wp2_with fail
      refine (Ha.out _).mono ?_
      rintro e w3 ⟨rfl, rfl⟩
      go_wp2_with fail
      go_ret
      exact ⟨rfl, (Below.refl _ _).alloc (Nat.le_refl _) _⟩
  · have Ha := Lib.hid (fun w => in_any k 0 3 w)
    rw [inB_f h] at Ha
    have HE := Lib.hid (flag_out h)
    clear h
    go_enter Tryz.func49, Tryz.ntmps49
    go_wp2_with fail
    refine (Ha.out _).mono ?_
    rintro e w3 ⟨rfl, rfl⟩
    go_wp2_with fail
    go_ret
    exact ⟨ret_str HE.out.symm, Below.refl _ _⟩
theorem flag_impl (k : Int) (w : World) :
    Calls Tryz.prog 66 #[.int .i64 k] w fun e w' => e = .returned (.string (flagv k)) ∧ w = w' := by
  by_cases h : 0 ≤ k ∧ k ≤ 3
  · rcases four h with rfl | rfl | rfl | rfl
    all_goals
      go_enter Tryz.func66, Tryz.ntmps66
      go_wp2_with fail
      go_ret
      exact ⟨rfl, rfl⟩
  · have HE := Lib.hid (flag_out h)
    by_cases h1 : k < 0
    · clear h
      go_enter Tryz.func66, Tryz.ntmps66
      go_wp2_with fail
      go_ret
      exact ⟨ret_str HE.out.symm, rfl⟩
    · have h2 : 4 ≤ k := by omega
      clear h
      go_enter Tryz.func66, Tryz.ntmps66
      go_wp2_with fail
      go_ret
      exact ⟨ret_str HE.out.symm, rfl⟩

theorem kind_at {s : ByteArray} {k : Nat} (hk : k < 4) (h : flagv k = s) : kindv s = k := by
  subst h
  match k, hk with
  | 0, _ => decide
  | 1, _ => decide
  | 2, _ => decide
  | 3, _ => decide
theorem kind_none {s : ByteArray} (h : ∀ j : Nat, j < 4 → ¬ flagv j = s) : kindv s = -1 := by
  have h0 := h 0 (by omega)
  have h1 := h 1 (by omega)
  have h2 := h 2 (by omega)
  have h3 := h 3 (by omega)
  unfold kindv
  rw [if_neg (fun e => h0 (by rw [e]; rfl)), if_neg (fun e => h1 (by rw [e]; rfl)), if_neg (fun e => h2 (by rw [e]; rfl)), if_neg (fun e => h3 (by rw [e]; rfl))]
theorem kind_spec (s : ByteArray) (w : World) :
    Calls Tryz.prog 45 #[.string s] w fun e w' => e = .returned (.int .i64 (kindv s)) ∧ Below w.heap.size w w' := by
  go_enter Tryz.func45, Tryz.ntmps45
  go_wp2
  go_loopw [3] (fun i wr => ∃ k : Nat, k ≤ 4 ∧ i = .int .i64 k ∧ (∀ j : Nat, j < k → ¬ flagv j = s) ∧ Below w.heap.size w wr) (fun i _ => 4 - (intOf i).toNat)
  case atStart => exact ⟨0, by omega, rfl, fun j h => absurd h (by omega), Below.refl _ _⟩
  case round =>
    obtain ⟨k, hk, rfl, hn, hb⟩ := hrel
    have HB := Lib.hid hb
    have HN := Lib.hid hn
    clear hb hn
    by_cases hlt : (k : Int) < 4
    · have HF := Lib.hid (fun w => flag_spec k w)
      by_cases hf : flagv k = s
      · have HE := Lib.hid (kind_at (by omega) hf)
        have q := ba_eq hf
        generalize flagv k = f at HF q
        clear hf
        go_wp2_with fail
        refine (HF.out _).mono ?_
        rintro e w1 ⟨rfl, hb1⟩
        go_wp2_with fail
        go_ret
        exact ⟨ret_int HE.out.symm, HB.out.trans (hb1.mono HB.out.size)⟩
      · have HE : Hid (∀ j : Nat, j < k + 1 → ¬ flagv j = s) := Lib.hid (fun j hj => by
          by_cases e : j = k
          · subst e; exact hf
          · exact HN.out j (by omega))
        have q := ba_ne hf
        generalize flagv k = f at HF q
        clear hf
        go_wp2_with fail
        refine (HF.out _).mono ?_
        rintro e w1 ⟨rfl, hb1⟩
        have HB1 := Lib.hid (HB.out.trans (hb1.mono HB.out.size))
        clear hb1
        go_wp2_with fail
        go_roundw
        case rel => exact ⟨k + 1, by omega, by go_num, HE.out, HB1.out⟩
        case measure => simp [intOf]; omega
    · have HE := Lib.hid (kind_none (s := s) (fun j hj => HN.out j (by omega)))
      go_wp2
      go_ret
      exact ⟨ret_int HE.out.symm, HB.out⟩
theorem one_byte {s : ByteArray} (h : s.size = 1) : ∃ c, s = ⟨#[c]⟩ := by
  have hl : s.data.toList.length = 1 := by simpa using h
  match hd : s.data.toList, hl with
  | [c], _ => exact ⟨c, ba_ext hd⟩
theorem kind_one (c : UInt8) : Lib.indexByte [48, 53, 50, 49] c = kindv ⟨#[c]⟩ := by
  have key : ∀ d : UInt8, ((⟨#[c]⟩ : ByteArray) = ⟨#[d]⟩) ↔ c = d := fun d => by simp
  unfold kindv
  simp only [key, Lib.indexByte]
  by_cases h0 : c = 48
  · subst h0; rfl
  by_cases h1 : c = 53
  · subst h1; rfl
  by_cases h2 : c = 50
  · subst h2; rfl
  by_cases h3 : c = 49
  · subst h3; rfl
  simp [h0, h1, h2, h3, Ne.symm h0, Ne.symm h1, Ne.symm h2, Ne.symm h3]
theorem kind_impl (s : ByteArray) (w : World) :
    Calls Tryz.prog 33 #[.string s] w fun e w' => e = .returned (.int .i64 (kindv s)) ∧ w = w' := by
  by_cases h : s.size = 1
  · obtain ⟨c, rfl⟩ := one_byte h
    have H := Lib.hid (fun w => Tryz.strings_Index_one ⟨#[48, 53, 50, 49]⟩ c w)
    rw [show (⟨#[48, 53, 50, 49]⟩ : ByteArray).data.toList = [48, 53, 50, 49] from rfl, kind_one] at H
    generalize kindv ⟨#[c]⟩ = r at H
    clear h
    go_enter Tryz.func33, Tryz.ntmps33
    go_wp2_with fail
    refine (H.out _).mono ?_
    rintro e w1 ⟨rfl, rfl⟩
    go_wp2_with fail
    go_ret
    exact ⟨rfl, rfl⟩
  · have HE : Hid (kindv s = -1) := Lib.hid (by
      unfold kindv
      rw [if_neg, if_neg, if_neg, if_neg]
      all_goals (intro e; subst e; exact h rfl))
    have h1 : ¬ (s.size : Int) = 1 := by omega
    generalize kindv s = r at HE
    clear h
    go_enter Tryz.func33, Tryz.ntmps33
    go_wp2_with fail
    go_ret
    exact ⟨ret_int HE.out.symm, rfl⟩
end Go.Proofs.YtancidbbkoeokabGreatDoor

/- Contracts of spec.Pad, impl.Pad and the law laws.FnExactPad: what each returns for every argument, the world unchanged. -/
namespace Go.Proofs.YtancidbbkoeokabGreatDoor
open Go.ChangeShapes Go.WideShapes Go.ChangeAt Go.RowKit

def padv (n u : Int) : Int := if 0 ≤ n ∧ n ≤ 9007199254740991 ∧ 1 ≤ u ∧ u ≤ 512 then (u - n % u) % u else 0

theorem pad_impl (n u : Int) (w : World) : Calls Tryz.prog 103 #[.int .i64 n, .int .i64 u] w fun e w' => e = .returned (.int .i64 (padv n u)) ∧ w = w' := by
  by_cases h1 : 0 ≤ n
  · by_cases h2 : n ≤ 9007199254740991
    · by_cases h3 : 1 ≤ u
      · by_cases h4 : u ≤ 512
        · have hm := Int.emod_nonneg n (show u ≠ 0 by omega)
          have hl := Int.emod_lt_of_pos n (show 0 < u by omega)
          go_enter Tryz.func103, Tryz.ntmps103
          go_wp2
          go_ret
          exact ⟨ret_int (by simp [padv, *]), rfl⟩
        · go_enter Tryz.func103, Tryz.ntmps103
          go_wp2
          go_ret
          exact ⟨ret_int (by simp [padv]; omega), rfl⟩
      · go_enter Tryz.func103, Tryz.ntmps103
        go_wp2
        go_ret
        exact ⟨ret_int (by simp [padv]; omega), rfl⟩
    · go_enter Tryz.func103, Tryz.ntmps103
      go_wp2
      go_ret
      exact ⟨ret_int (by simp [padv]; omega), rfl⟩
  · go_enter Tryz.func103, Tryz.ntmps103
    go_wp2
    go_ret
    exact ⟨ret_int (by simp [padv]; omega), rfl⟩


theorem pad_spec (n u : Int) (w : World) : Calls Tryz.prog 97 #[.int .i64 n, .int .i64 u] w fun e w' => e = .returned (.int .i64 (padv n u)) ∧ w = w' := by
  by_cases h1 : 0 ≤ n ∧ n ≤ 9007199254740991
  · have i1 := inB_t h1
    by_cases h2 : 1 ≤ u ∧ u ≤ 512
    · have i2 := inB_t h2
      have hm := Int.emod_nonneg n (show u ≠ 0 by omega)
      have hl := Int.emod_lt_of_pos n (show 0 < u by omega)
      by_cases h3 : n % u = 0
      · have hz : (n % u == 0) = true := by simp [h3]
        have H := Lib.hid h3
        clear h3
        go_enter Tryz.func97, Tryz.ntmps97
        go_wp2_with (go_at_call 100; refine (in_any _ _ _ _).mono ?_; rintro e w' ⟨rfl, rfl⟩)
        go_ret
        exact ⟨ret_int (by simp [padv, H.out]), rfl⟩
      · have hz : (n % u == 0) = false := by simp [h3]
        go_enter Tryz.func97, Tryz.ntmps97
        go_wp2_with (go_at_call 100; refine (in_any _ _ _ _).mono ?_; rintro e w' ⟨rfl, rfl⟩)
        go_ret
        refine ⟨ret_int ?_, rfl⟩
        rw [padv, if_pos (by omega)]
        exact (Int.emod_eq_of_lt (a := u - n % u) (by omega) (by omega)).symm
    · have i2 := inB_f h2
      go_enter Tryz.func97, Tryz.ntmps97
      go_wp2_with (go_at_call 100; refine (in_any _ _ _ _).mono ?_; rintro e w' ⟨rfl, rfl⟩)
      go_ret
      exact ⟨ret_int (by simp [padv]; omega), rfl⟩
  · have i1 := inB_f h1
    go_enter Tryz.func97, Tryz.ntmps97
    go_wp2_with (go_at_call 100; refine (in_any _ _ _ _).mono ?_; rintro e w' ⟨rfl, rfl⟩)
    go_ret
    exact ⟨ret_int (by simp [padv]; omega), rfl⟩

end Go.Proofs.YtancidbbkoeokabGreatDoor

/- A body and its padding: spec.l04Body, impl.nuls, impl.padded. -/
namespace Go.Proofs.YtancidbbkoeokabGreatDoor
open Go.ChangeShapes Go.WideShapes Go.ChangeAt Go.RowKit

theorem pad_bd (n : Nat) : 0 ≤ padv n 512 ∧ padv n 512 ≤ 511 := by
  unfold padv
  split
  · have h1 := Int.emod_nonneg (512 - (n : Int) % 512) (by omega : (512 : Int) ≠ 0)
    have h2 := Int.emod_lt_of_pos (512 - (n : Int) % 512) (by omega : (0 : Int) < 512)
    omega
  · omega

def bodyP (s : ByteArray) : ByteArray := s ++ nulv (padv s.size 512).toNat
theorem body_size (s : ByteArray) : (bodyP s).size ≤ s.size + 511 := by
  rw [bodyP, ByteArray.size_append, nulv_size]
  have := pad_bd s.size
  omega
theorem l04Body_spec (s : ByteArray) (w : World) (hs : s.size ≤ 4194304) :
    Calls Tryz.prog 50 #[.string s] w fun e w' => e = .returned (.string (bodyP s)) ∧ Below w.heap.size w w' := by
  have H1 := Lib.hid (fun w => pad_spec s.size 512 w)
  have hp := pad_bd s.size
  have HE : Hid (bodyP s = s ++ nulv (padv s.size 512).toNat) := Lib.hid rfl
  generalize bodyP s = r at HE
  have H2 := Lib.hid (fun w => nuls_spec (padv s.size 512) w (by omega))
  have z := nulv_size (padv s.size 512).toNat
  generalize nulv (padv s.size 512).toNat = nn at *
  generalize padv s.size 512 = pp at *
  go_enter Tryz.func50, Tryz.ntmps50
  go_wp2_with fail
  refine (H1.out _).mono ?_
  rintro e w1 ⟨rfl, rfl⟩
  go_wp2_with fail
  refine (H2.out _).mono ?_
  rintro e w2 ⟨rfl, hb⟩
  go_wp2
  go_ret
  exact ⟨ret_str HE.out.symm, hb⟩
theorem fill_empty {n : Int} (h : n ≤ 1024) : fillv ⟨#[]⟩ n = nulv n.toNat := by
  unfold fillv
  have z : (⟨#[]⟩ : ByteArray).size = 0 := rfl
  by_cases q : n ≤ 0
  · rw [if_pos (.inr (by omega)), show n.toNat = 0 from by omega]; rfl
  · rw [if_neg (by omega), z]
    apply ba_ext
    simp
theorem nulsI_any (n : Int) (w : World) (hn : n ≤ 1024) :
    Calls Tryz.prog 56 #[.int .i64 n] w fun e w' => e = .returned (.string (nulv n.toNat)) ∧ Below w.heap.size w w' := by
  have H := Lib.hid (fun w => fill_impl ⟨#[]⟩ n w (by decide))
  rw [fill_empty hn] at H
  generalize nulv n.toNat = r at H
  go_enter Tryz.func56, Tryz.ntmps56
  go_wp2_with fail
  refine (H.out _).mono ?_
  rintro e w1 ⟨rfl, hb⟩
  go_wp2
  go_ret
  exact ⟨rfl, hb⟩
theorem padded_any (s : ByteArray) (w : World) (hs : s.size ≤ 4194304) :
    Calls Tryz.prog 67 #[.string s] w fun e w' => e = .returned (.string (bodyP s)) ∧ Below w.heap.size w w' := by
  have H1 := Lib.hid (fun w => pad_impl s.size 512 w)
  have hp := pad_bd s.size
  have HE : Hid (bodyP s = s ++ nulv (padv s.size 512).toNat) := Lib.hid rfl
  generalize bodyP s = r at HE
  have H2 := Lib.hid (fun w => nulsI_any (padv s.size 512) w (by omega))
  have z := nulv_size (padv s.size 512).toNat
  generalize nulv (padv s.size 512).toNat = nn at *
  generalize padv s.size 512 = pp at *
  go_enter Tryz.func67, Tryz.ntmps67
  go_wp2_with fail
  refine (H1.out _).mono ?_
  rintro e w1 ⟨rfl, rfl⟩
  go_wp2_with fail
  refine (H2.out _).mono ?_
  rintro e w2 ⟨rfl, hb⟩
  go_wp2
  go_ret
  exact ⟨ret_str HE.out.symm, hb⟩
end Go.Proofs.YtancidbbkoeokabGreatDoor

/- The bytes of an ustar archive: plain lists only. -/
namespace Go.Proofs.YtancidbbkoeokabGreatDoor
open Go.ChangeShapes Go.WideShapes Go.ChangeAt Go.RowKit

theorem putHead_size {e : Ent} {fl : ByteArray} {sz : Int} (h : fitsv e = true) (hf : fl.size = 1) (hs : 0 ≤ sz ∧ sz ≤ 3000) : (putHeadv e fl sz).size = 512 := by
  obtain ⟨nm, nu, ng, nt, zl, zus, zgr, hso⟩ := fits_nums h
  obtain ⟨zn, zp⟩ := split_sizes hso
  have p7 : (8 : Nat) ^ (8 - 1) = 2097152 := by decide
  have p11 : (8 : Nat) ^ (12 - 1) = 8589934592 := by decide
  have p6 : (8 : Nat) ^ 6 = 262144 := by decide
  have a1 := fill_exact zn (by omega)
  have a2 := octz_exact (x := 8) nm.1 (by omega) (by omega) (by omega)
  have a3 := octz_exact (x := 8) nu.1 (by omega) (by omega) (by omega)
  have a4 := octz_exact (x := 8) ng.1 (by omega) (by omega) (by omega)
  have a5 := octz_exact (x := 12) hs.1 (by omega) (by omega) (by omega)
  have a6 := octz_exact (x := 12) nt.1 (by omega) (by omega) (by omega)
  have b1 := fill_exact zl (by omega)
  have b2 := fill_exact zus (by omega)
  have b3 := fill_exact zgr (by omega)
  have b4 := fill_exact zp (by omega)
  have b5 := octz_exact (n := 0) (x := 8) (by omega) (by omega) (by omega) (by decide)
  have b6 := nulv_size 12
  have b7 : magicU.size = 8 := by decide
  have hA : (headA e (splitN e.path) sz).size = 148 := by
    simp only [headA, ByteArray.size_append]
    simp only [Int.cast_ofNat_Int] at a1 a2 a3 a4 a5 a6
    omega
  have hB : (headB e (splitP e.path) fl magicU).size = 356 := by
    simp only [headB, ByteArray.size_append]
    simp only [Int.cast_ofNat_Int] at b1 b2 b3 b4 b5
    omega
  have s1 := sumv_bd (headA e (splitN e.path) sz).data.toList
  have s2 := sumv_bd (headB e (splitP e.path) fl magicU).data.toList
  have l1 : (headA e (splitN e.path) sz).data.toList.length = 148 := by simpa using hA
  have l2 : (headB e (splitP e.path) fl magicU).data.toList.length = 356 := by simpa using hB
  obtain ⟨_, hz, _⟩ := oct_fits (n := sumv (headA e (splitN e.path) sz).data.toList + 256 + sumv (headB e (splitP e.path) fl magicU).data.toList) (k := 6) (by omega) (by omega) (by omega) (by omega)
  have hz' : (putOctv (sumv (headA e (splitN e.path) sz).data.toList + 256 + sumv (headB e (splitP e.path) fl magicU).data.toList) 6).1.size = 6 := hz
  rw [putHeadv, if_pos ⟨h, hf, hs⟩]
  simp only [headv, ByteArray.size_append, hA, hB, hz']
  rfl
theorem entOk_kb {e : Ent} (h : entOkv e = true) : (0 ≤ e.kind ∧ e.kind ≤ 3) ∧ e.body.size ≤ 3000 := by
  simp only [entOkv, Bool.and_eq_true] at h
  have hk := h.2
  unfold kindOk at hk
  split at hk
  · simp only [Bool.and_eq_true, decide_eq_true_eq] at hk; omega
  · split at hk
    · simp only [Bool.and_eq_true, decide_eq_true_eq] at hk; omega
    · split at hk
      · simp only [Bool.and_eq_true, decide_eq_true_eq] at hk; omega
      · split at hk
        · simp only [Bool.and_eq_true, decide_eq_true_eq] at hk; omega
        · cases hk
theorem flag_one {k : Int} (h : 0 ≤ k ∧ k ≤ 3) : (flagv k).size = 1 := by
  rcases four h with rfl | rfl | rfl | rfl <;> decide
theorem listOk_ent {L : List Ent} (h : listOkv L = true) {i : Nat} {e : Ent} (he : L[i]? = some e) : entOkv e = true := by
  simp only [listOkv, Bool.and_eq_true, List.all_eq_true, List.mem_range] at h
  have hi : i < L.length := (List.getElem?_eq_some_iff.1 he).1
  have := h.1 i hi
  have hg : L.getD i entD = e := by simp [List.getD, he]
  rw [hg] at this
  simp only [entAtOk, Bool.and_eq_true] at this
  exact this.1.1
theorem listOk_30 {L : List Ent} (h : listOkv L = true) : L.length ≤ 30 := by
  simp only [listOkv, Bool.and_eq_true, decide_eq_true_eq] at h
  exact h.2
def piece (e : Ent) : ByteArray := putHeadv e (flagv e.kind) e.body.size ++ bodyP e.body
def piecesTo (L : List Ent) : Nat → ByteArray
  | 0 => ⟨#[]⟩
  | i + 1 => piecesTo L i ++ piece (L.getD i entD)
theorem pieces_step {L : List Ent} {i : Nat} {e : Ent} (h : L[i]? = some e) : piecesTo L (i + 1) = piecesTo L i ++ putHeadv e (flagv e.kind) e.body.size ++ bodyP e.body := by
  rw [piecesTo, show L.getD i entD = e from by simp [List.getD, h], piece]
  apply ba_ext
  simp
def ustarOk (L : List Ent) : Bool := listOkv L && L.all fitsv
def putUstarv (L : List Ent) : ByteArray × Bool := if ustarOk L = true then (piecesTo L L.length ++ nulv 1024, true) else (⟨#[]⟩, false)
def FitTo (L : List Ent) (i : Nat) : Prop := ∀ j, j < i → fitsv (L.getD j entD) = true
theorem FitTo.step {L : List Ent} {i : Nat} {e : Ent} (h : FitTo L i) (he : L[i]? = some e) (hf : fitsv e = true) : FitTo L (i + 1) := fun j hj => by
  by_cases q : j = i
  · subst q; rw [show L.getD j entD = e from by simp [List.getD, he]]; exact hf
  · exact h j (by omega)
theorem ustar_yes {L : List Ent} (h : listOkv L = true) (hf : FitTo L L.length) : putUstarv L = (piecesTo L L.length ++ nulv 1024, true) := by
  rw [putUstarv, if_pos]
  simp only [ustarOk, h, Bool.true_and, List.all_eq_true]
  intro e he
  obtain ⟨i, hi, rfl⟩ := List.mem_iff_getElem.1 he
  have := hf i hi
  rwa [show L.getD i entD = L[i] from by simp [List.getD, hi]] at this
theorem ustar_bad {L : List Ent} (h : listOkv L = false) : putUstarv L = (⟨#[]⟩, false) := by rw [putUstarv, if_neg (by simp [ustarOk, h])]
theorem ustar_no {L : List Ent} {i : Nat} {e : Ent} (he : L[i]? = some e) (hf : fitsv e = false) : putUstarv L = (⟨#[]⟩, false) := by
  rw [putUstarv, if_neg]
  simp only [ustarOk, Bool.and_eq_true, List.all_eq_true]
  intro h
  have := h.2 e (List.mem_of_getElem? he)
  rw [hf] at this
  cases this
/-- A header of an entry of a right list: of 512 bytes where it fits, else empty. -/
theorem head_or {e : Ent} (h : entOkv e = true) : (fitsv e = true ∧ (putHeadv e (flagv e.kind) e.body.size).size = 512) ∨ (fitsv e = false ∧ putHeadv e (flagv e.kind) e.body.size = ⟨#[]⟩) := by
  obtain ⟨hk, hb⟩ := entOk_kb h
  cases hf : fitsv e with
  | true => exact .inl ⟨rfl, putHead_size hf (flag_one hk) (by omega)⟩
  | false => exact .inr ⟨rfl, putHead_no (by rw [hf]; simp)⟩
theorem pieces_size {L : List Ent} (h : listOkv L = true) (i : Nat) (hi : i ≤ L.length) : (piecesTo L i).size ≤ 4100 * i := by
  induction i with
  | zero => exact Nat.zero_le _
  | succ i ih =>
    have he : L[i]? = some L[i] := List.getElem?_eq_getElem (by omega)
    have hok := listOk_ent h he
    have hb := body_size L[i].body
    have hk := (entOk_kb hok).2
    have h5 : (putHeadv L[i] (flagv L[i].kind) L[i].body.size).size ≤ 512 := by
      rcases head_or hok with ⟨_, h⟩ | ⟨_, h⟩
      · omega
      · rw [h]; decide
    rw [pieces_step he, ByteArray.size_append, ByteArray.size_append]
    have := ih (by omega)
    omega
end Go.Proofs.YtancidbbkoeokabGreatDoor

/- A statement that draws its order, proved by what each of its operations leaves: an invariant over whatever has come up. Nothing of the program is said here. -/
namespace Go.Proofs.YtancidbbkoeokabGreatDoor
open Go

section
variable {P : Program} {ops : Array Oper} {Q : Exit → Act → World → Prop} {md : Region.Mode}

/-- How many of the first n have not come up yet. -/
def openOps (n : Nat) (listed : Array Bool) : Nat := ((List.range n).filter fun i => !listed.getD i true).length
theorem set_getD_ne {listed : Array Bool} {i j : Nat} {d : Bool} (h : j ≠ i) : (listed.setIfInBounds i true).getD j d = listed.getD j d := getD_set_ne d (Ne.symm h)
theorem set_getD_self {listed : Array Bool} {i : Nat} {d : Bool} (h : i < listed.size) : (listed.setIfInBounds i true).getD i d = true := by
  simp [Array.getD, h]
theorem lt_of_open {listed : Array Bool} {i : Nat} (h : listed.getD i true = false) : i < listed.size := by
  by_cases hi : i < listed.size
  · exact hi
  · simp [Array.getD, hi] at h
theorem openOps_set {n i : Nat} {listed : Array Bool} (hi : i < n) (hl : listed.getD i true = false) : openOps n (listed.setIfInBounds i true) < openOps n listed := by
  unfold openOps
  have e : ((List.range n).filter fun j => !(listed.setIfInBounds i true).getD j true) = ((List.range n).filter fun j => !listed.getD j true).filter fun j => decide (j ≠ i) := by
    rw [List.filter_filter]
    apply List.filter_congr
    intro j _
    by_cases hj : j = i
    · subst hj
      rw [set_getD_self (lt_of_open hl)]; simp
    · rw [set_getD_ne hj]; simp [hj]
  rw [e]
  apply List.length_filter_lt_length_iff_exists.2
  exact ⟨i, List.mem_filter.2 ⟨List.mem_range.2 hi, by rw [hl]; rfl⟩, by simp⟩
theorem ready_lt {listed : Array Bool} {i : Nat} (h : i ∈ Region.ready md ops listed) : i < ops.size ∧ listed.getD i true = false := by
  obtain ⟨h1, o, h2, _⟩ := mem_ready.1 h
  exact ⟨(Array.getElem?_eq_some_iff.1 h2).1, h1⟩
theorem wpAny_inv (I : Array Bool → Act → World → Prop)
    (hstep : ∀ listed a w, I listed a w → ∀ i ∈ Region.ready md ops listed, wpOp P ops Q i (I (listed.setIfInBounds i true)) a w)
    (hend : ∀ listed a w, I listed a w → Region.ready md ops listed = [] → Q .normal a w) :
    ∀ (fuel : Nat) (listed : Array Bool) (a : Act) (w : World), openOps ops.size listed ≤ fuel → I listed a w → wpAny P md ops Q fuel listed a w
  | 0, listed, a, w, hf, hI => by
    have hr : Region.ready md ops listed = [] := by
      cases h : Region.ready md ops listed with
      | nil => rfl
      | cons i r =>
        have hi := ready_lt (md := md) (ops := ops) (listed := listed) (i := i) (by rw [h]; simp)
        have := openOps_set hi.1 hi.2
        omega
    exact ⟨hr, hend _ _ _ hI hr⟩
  | fuel + 1, listed, a, w, hf, hI => by
    refine ⟨fun hr => hend _ _ _ hI hr, fun i hi => wpOp_mono (fun a' w' h' => wpAny_inv I hstep hend fuel _ a' w' ?_ h') (hstep _ _ _ hI i hi)⟩
    have h1 := ready_lt hi
    have := openOps_set h1.1 h1.2
    omega

theorem getD_put_ne {xs : Array Value} {d t : Nat} {v u : Value} (h : d ≠ t) : (xs.setIfInBounds d v).getD t u = xs.getD t u := by
  simp [Array.getD_eq_getD_getElem?, h]
/-- The slots that an operation looks at. -/
def slotsOf (o : Oper) : List Nat := o.op.operands.toList.filterMap fun | .tmp t => some t | _ => none
theorem slotsOf_mem {o : Oper} {t : Nat} (h : Operand.tmp t ∈ o.op.operands) : t ∈ slotsOf o := List.mem_filterMap.2 ⟨.tmp t, by simpa using h, rfl⟩
/-- Does the region write this slot? -/
def inReg (ops : Array Oper) (t : Nat) : Bool := ops.any fun o => o.dst == some t
theorem inReg_of {i t : Nat} {o : Oper} (h : ops[i]? = some o) (hd : o.dst = some t) : inReg ops t = true := by
  unfold inReg
  rw [Array.any_eq_true]
  obtain ⟨hi, rfl⟩ := Array.getElem?_eq_some_iff.1 h
  exact ⟨i, hi, by rw [hd]; simp⟩
/-- Is what o reads in this slot what stood there ahead of the region: nothing writes it, or only what comes behind o? -/
def oldB (md : Region.Mode) (ops : Array Oper) (o : Oper) (t : Nat) : Bool :=
  ops.all fun p => p.dst != some t || (o.dst.isSome && p.after.any fun e => Region.binds md e && ((ops[e.on]?).bind (·.dst) == o.dst))
theorem oldB_f {o : Oper} {t : Nat} (h : oldB md ops o t = false) : ∃ (j : Nat) (p : Oper), ops[j]? = some p ∧ p.dst = some t := by
  unfold oldB at h
  rw [Array.all_eq_false] at h
  obtain ⟨j, hj, h⟩ := h
  refine ⟨j, ops[j], Array.getElem?_eq_getElem hj, ?_⟩
  simp only [Bool.or_eq_false_iff, bne_eq_false_iff_eq, Bool.not_eq_true] at h
  exact h.1
theorem oldB_t {o : Oper} {t j : Nat} {p : Oper} (h : oldB md ops o t = true) (hp : ops[j]? = some p) (hd : p.dst = some t) : ∃ d, o.dst = some d ∧ ∃ e ∈ p.after, Region.binds md e = true ∧ (ops[e.on]?).bind (·.dst) = some d := by
  unfold oldB at h
  rw [Array.all_eq_true_iff_forall_mem] at h
  have h1 := h p (Array.mem_of_getElem? hp)
  rw [hd] at h1
  simp only [bne_self_eq_false, Bool.false_or, Bool.and_eq_true, Array.any_eq_true', beq_iff_eq] at h1
  obtain ⟨hs, e, he, hb, hq⟩ := h1
  obtain ⟨d, hd'⟩ := Option.isSome_iff_exists.1 hs
  exact ⟨d, hd', e, he, hb, by rw [hq, hd']⟩
/-- What has come up has left what it should, all else is as it was. -/
structure RegI (md : Region.Mode) (ops : Array Oper) (C : World → Prop) (V : Nat → Value → World → Prop) (a0 : Act) (listed : Array Bool) (a : Act) (w : World) : Prop where
  size : listed.size = ops.size
  clo : ∀ j p, ops[j]? = some p → listed.getD j false = true → ∀ e ∈ p.after, Region.binds md e = true → listed.getD e.on false = true
  cls : C w
  defers : a.defers = a0.defers
  tsize : a.tmps.size = a0.tmps.size
  old : ∀ t, (∀ i o, ops[i]? = some o → listed.getD i false = true → o.dst ≠ some t) → a.tmps.getD t undef = a0.tmps.getD t undef
  new : ∀ i o d, ops[i]? = some o → listed.getD i false = true → o.dst = some d → V d (a.tmps.getD d undef) w
/-- One operation, in whatever state what it looks at is there. -/
def OpOk (P : Program) (ops : Array Oper) (C : World → Prop) (St : World → World → Prop) (V : Nat → Value → World → Prop) (a0 : Act) (o : Oper) : Prop :=
  ∀ (Q : Exit → Act → World → Prop) (a : Act) (w : World), C w → (∀ t, Operand.tmp t ∈ o.op.operands → oldB .any ops o t = false → V t (a.eval (.tmp t)) w) → (∀ t, Operand.tmp t ∈ o.op.operands → oldB .any ops o t = true → a.eval (.tmp t) = a0.eval (.tmp t)) →
    o.wp P a w (fun a' w' => ∃ v, a' = a.put o.dst v ∧ C w' ∧ St w w' ∧ ∀ d, o.dst = some d → V d v w') Q
/-- What is asked of the region's own shape, in one Boolean. -/
def regB (md : Region.Mode) (ops : Array Oper) (n : Nat) : Bool :=
  (List.range ops.size).all fun i => match ops[i]? with
    | none => true
    | some o => o.guard.isNone && (match o.dst with | some d => decide (d < n) | none => true) &&
      o.after.all (fun e => !Region.binds md e || decide (e.on < i)) &&
      (List.range ops.size).all (fun j => match ops[j]? with
        | none => true
        | some p => (match p.dst with
          | none => true
          | some d => (decide (i = j) || o.dst != some d) && (!((slotsOf o).contains d) || oldB md ops o d || o.after.any (fun e => Region.binds md e && e.on == j))))
theorem regB_at {n i : Nat} {o : Oper} (h : regB md ops n = true) (hi : ops[i]? = some o) : o.guard = none ∧ (∀ d, o.dst = some d → d < n) ∧ (∀ e ∈ o.after, Region.binds md e = true → e.on < i) ∧
    ∀ j p d, ops[j]? = some p → p.dst = some d → (i = j ∨ o.dst ≠ some d) ∧ (Operand.tmp d ∈ o.op.operands → oldB md ops o d = false → ∃ e ∈ o.after, Region.binds md e = true ∧ e.on = j) := by
  have hlt := (Array.getElem?_eq_some_iff.1 hi).1
  have h1 := List.all_eq_true.1 h i (List.mem_range.2 hlt)
  simp only [hi, Bool.and_eq_true] at h1
  obtain ⟨⟨⟨hg, hd⟩, he⟩, hj⟩ := h1
  refine ⟨by simpa using hg, fun d hd' => by rw [hd'] at hd; simpa using hd, fun e hm hb => ?_, fun j p d hp hpd => ?_⟩
  · have := Array.all_eq_true'.1 he e hm
    simpa [hb] using this
  · have hltj := (Array.getElem?_eq_some_iff.1 hp).1
    have h2 := List.all_eq_true.1 hj j (List.mem_range.2 hltj)
    simp only [hp, hpd, Bool.and_eq_true] at h2
    refine ⟨by simpa using h2.1, fun hm ho => ?_⟩
    have h3 := h2.2
    have hc : (slotsOf o).contains d = true := by simpa using slotsOf_mem hm
    rw [hc, ho] at h3
    simp only [Bool.not_true, Bool.false_or, Array.any_eq_true', Bool.and_eq_true, beq_iff_eq] at h3
    exact h3
theorem all_listed {n : Nat} {listed : Array Bool} (hB : regB md ops n = true) (hs : listed.size = ops.size) (hr : Region.ready md ops listed = []) : ∀ i, i < ops.size → listed.getD i false = true := by
  intro i
  induction i using Nat.strongRecOn with
  | ind i ih =>
    intro hi
    cases h : listed.getD i false with
    | true => rfl
    | false =>
      have ho : ops[i]? = some ops[i] := Array.getElem?_eq_getElem hi
      have hmem : i ∈ Region.ready md ops listed := by
        refine mem_ready.2 ⟨by simp [Array.getD, hs, hi] at h ⊢; exact h, ops[i], ho, fun e he hb => ?_⟩
        have := (regB_at hB ho).2.2.1 e he hb
        exact ih e.on this (by omega)
      rw [hr] at hmem
      cases hmem
/-- All slots as they are at the end. -/
def putAll (f : Nat → Value) : List Oper → Act → Act
  | [], a => a
  | o :: l, a => putAll f l (a.put o.dst (match o.dst with | some d => f d | none => undef))
theorem putAll_facts (f : Nat → Value) : ∀ (l : List Oper) (a : Act), (putAll f l a).defers = a.defers ∧ (putAll f l a).tmps.size = a.tmps.size ∧ ∀ t, t < a.tmps.size → (putAll f l a).tmps.getD t undef = if l.any (fun o => o.dst == some t) = true then f t else a.tmps.getD t undef
  | [], a => ⟨rfl, rfl, fun t _ => by simp [putAll]⟩
  | o :: l, a => by
    obtain ⟨dst, op, type, pos, after, guard⟩ := o
    cases dst with
    | none =>
      have h := putAll_facts f l a
      refine ⟨h.1, h.2.1, fun t ht => ?_⟩
      have := h.2.2 t ht
      simpa [putAll, Act.put] using this
    | some d =>
      have h := putAll_facts f l (a.put (some d) (f d))
      have hs : (a.put (some d) (f d)).tmps.size = a.tmps.size := by simp [Act.put]
      refine ⟨h.1, h.2.1.trans hs, fun t ht => ?_⟩
      have h2 := h.2.2 t (by omega)
      show (putAll f l (a.put (some d) (f d))).tmps.getD t undef = _
      rw [h2, List.any_cons]
      by_cases ha : l.any (fun o => o.dst == some t) = true
      · rw [if_pos ha, if_pos (by rw [ha]; simp)]
      · rw [if_neg ha]
        by_cases hd : d = t
        · subst hd
          rw [if_pos (by simp)]
          simp [Act.put, Array.getD, ht]
        · rw [if_neg (by simp [hd]; simpa using ha)]
          exact getD_put_ne hd
theorem act_ext {a b : Act} (hd : a.defers = b.defers) (hs : a.tmps.size = b.tmps.size) (h : ∀ t, t < b.tmps.size → a.tmps.getD t undef = b.tmps.getD t undef) : a = b := by
  obtain ⟨at', ad⟩ := a
  obtain ⟨bt, bd⟩ := b
  simp only at hd hs h
  subst hd
  congr 1
  apply Array.ext hs
  intro i h1 h2
  have := h i h2
  simpa [Array.getD, h1, h2] using this
/-- **The region, in whatever order.** -/
theorem wp_region_inv {id : Nat} {a0 : Act} {w0 : World} {l : List Oper} (hm : P.follows .mixedOrders = true) (C : World → Prop) (St : World → World → Prop) (V : Nat → Value → World → Prop) (hB : regB .any l.toArray a0.tmps.size = true)
    (hC : C { w0 with drawn := w0.drawn + 1 }) (hV : ∀ d v w w', C w → St w w' → V d v w → V d v w') (hops : ∀ o ∈ l, OpOk P l.toArray C St V a0 o)
    (hend : ∀ (f : Nat → Value) (w : World), C w → (∀ o ∈ l, ∀ d, o.dst = some d → V d (f d) w) → Q .normal (putAll f l a0) w) : (Code.region id l.toArray true).wp P Q a0 w0 := by
  refine wp_region_any hm (wpAny_inv (RegI .any l.toArray C V a0) ?_ ?_ _ _ _ _ ?_ ?_)
  · intro listed a w hI i hi
    obtain ⟨hun, o, ho, hall⟩ := mem_ready.1 hi
    have hat := regB_at hB ho
    have hwant : Region.wanted o (yielded l.toArray a.tmps) = true := by simp [Region.wanted, hat.1]
    have hmem : o ∈ l := by
      have := Array.mem_of_getElem? ho
      simpa using this
    have hrun := hops o hmem Q a w hI.cls (fun t ht hin => ?_) (fun t ht hin => ?_)
    · unfold wpOp
      simp only [ho, hwant, if_true]
      refine .inl (Oper.wp_mono (fun a' w' h' => ?_) hrun)
      obtain ⟨v, rfl, hC', hSt, hv⟩ := h'
      have hltl : i < listed.size := by rw [hI.size]; exact (Array.getElem?_eq_some_iff.1 ho).1
      refine ⟨by simpa using hI.size, fun j p hp hl e he hb => ?_, hC', ?_, ?_, fun t ht => ?_, fun j p d hp hl hd => ?_⟩
      · have hup : ∀ k, listed.getD k false = true → (listed.setIfInBounds i true).getD k false = true := fun k hk => by
          by_cases q : k = i
          · subst q; exact set_getD_self hltl
          · rw [set_getD_ne q]; exact hk
        by_cases hj : j = i
        · subst hj
          rw [ho] at hp
          obtain rfl := Option.some.inj hp
          exact hup _ (hall e he hb)
        · rw [set_getD_ne hj] at hl
          exact hup _ (hI.clo j p hp hl e he hb)
      · cases hdst : o.dst <;> simp [Act.put, hI.defers]
      · cases hdst : o.dst <;> simp [Act.put, hI.tsize]
      · have hne : o.dst ≠ some t := ht i o ho (set_getD_self hltl)
        have h1 := hI.old t (fun j p hp hl => ht j p hp (by
          by_cases hj : j = i
          · subst hj; exact set_getD_self hltl
          · rw [set_getD_ne hj]; exact hl))
        rw [← h1]
        cases hdst : o.dst with
        | none => rfl
        | some d =>
          have hdt : d ≠ t := fun e => hne (by rw [hdst, e])
          exact getD_put_ne hdt
      · by_cases hj : j = i
        · subst hj
          rw [ho] at hp
          obtain rfl := Option.some.inj hp
          have hdl := hat.2.1 d hd
          have : (a.put o.dst v).tmps.getD d undef = v := by
            rw [hd]; simp [Act.put, Array.getD, hI.tsize, hdl]
          rw [this]
          exact hv d hd
        · have hl' : listed.getD j false = true := by rw [set_getD_ne hj] at hl; exact hl
          have hne : o.dst ≠ some d := ((hat.2.2.2 j p d hp hd).1).resolve_left (Ne.symm hj)
          have hold := hI.new j p d hp hl' hd
          have : (a.put o.dst v).tmps.getD d undef = a.tmps.getD d undef := by
            cases hdst : o.dst with
            | none => rfl
            | some d' =>
              have hdt : d' ≠ d := fun e => hne (by rw [hdst, e])
              exact getD_put_ne hdt
          rw [this]
          exact hV d _ _ _ hI.cls hSt hold
    · obtain ⟨j, p, hp, hd⟩ := oldB_f hin
      obtain ⟨e, he, hb, rfl⟩ := (hat.2.2.2 j p t hp hd).2 (by simpa using ht) hin
      exact hI.new e.on p t hp (hall e he hb) hd
    · refine hI.old t (fun j p hp hl hd => ?_)
      obtain ⟨d, hod, e, he, hb, hq⟩ := oldB_t hin hp hd
      have hel := hI.clo j p hp hl e he hb
      cases hqq : l.toArray[e.on]? with
      | none => rw [hqq] at hq; cases hq
      | some q =>
        rw [hqq] at hq
        rcases (hat.2.2.2 e.on q d hqq hq).1 with rfl | h
        · have hlt : e.on < listed.size := by rw [hI.size]; exact (Array.getElem?_eq_some_iff.1 hqq).1
          simp only [Array.getD, hlt, dif_pos] at hel hun
          rw [hel] at hun
          cases hun
        · exact h hod
  · intro listed a w hI hr
    have hal := all_listed hB hI.size hr
    have hput := putAll_facts (fun d => a.tmps.getD d undef) l a0
    have ha : a = putAll (fun d => a.tmps.getD d undef) l a0 := by
      refine act_ext (hI.defers.trans hput.1.symm) (hI.tsize.trans hput.2.1.symm) (fun t ht => ?_)
      rw [hput.2.1] at ht
      rw [hput.2.2 t ht]
      by_cases h : l.any (fun o => o.dst == some t) = true
      · rw [if_pos h]
      · rw [if_neg h]
        refine hI.old t (fun i o ho _ hd => h ?_)
        rw [List.any_eq_true]
        exact ⟨o, by have := Array.mem_of_getElem? ho; simpa using this, by rw [hd]; simp⟩
    rw [ha]
    refine hend _ w hI.cls (fun o ho d hd => ?_)
    obtain ⟨i, hi⟩ := List.mem_iff_getElem?.1 ho
    have hi' : l.toArray[i]? = some o := by simpa using hi
    exact hI.new i o d hi' (hal i (Array.getElem?_eq_some_iff.1 hi').1) hd
  · unfold openOps
    exact Nat.le_trans (List.length_filter_le _ _) (by simp)
  · refine ⟨by simp, fun j p _ hl => ?_, hC, rfl, rfl, fun t _ => rfl, fun i o d ho hl _ => ?_⟩
    · simp [Array.getD] at hl
    · simp [Array.getD] at hl
/-- An operation that yields a value and leaves a world of the class. -/
theorem op_val {C : World → Prop} {St : World → World → Prop} {V : Nat → Value → World → Prop} {o : Oper} {a : Act} {w w' : World} (v : Value) (h : (execOp a.eval o).run P w = .ok (.value v) w') (hC : C w') (hS : St w w') (hv : ∀ d, o.dst = some d → V d v w') :
    o.wp P a w (fun a' w' => ∃ v, a' = a.put o.dst v ∧ C w' ∧ St w w' ∧ ∀ d, o.dst = some d → V d v w') Q := by
  unfold Oper.wp
  rw [h]
  exact ⟨v, rfl, hC, hS, hv⟩
/-- A call under a contract. -/
theorem op_call {C : World → Prop} {St : World → World → Prop} {V : Nat → Value → World → Prop} {o : Oper} {a : Act} {w : World} {f : FuncId} {args : Array Value} {R : Value → World → Prop} (h : (execOp a.eval o).run P w = .ok (.enter f args) w)
    (hc : Calls P f args w fun e w' => ∃ v, e = .returned v ∧ R v w') (hR : ∀ v w', R v w' → C w' ∧ St w w' ∧ ∀ d, o.dst = some d → V d v w') :
    o.wp P a w (fun a' w' => ∃ v, a' = a.put o.dst v ∧ C w' ∧ St w w' ∧ ∀ d, o.dst = some d → V d v w') Q := by
  unfold Oper.wp
  rw [h]
  refine Calls.mono hc (fun e w' he => ?_)
  obtain ⟨v, rfl, hr⟩ := he
  obtain ⟨h1, h2, h3⟩ := hR v w' hr
  exact ⟨v, rfl, h1, h2, h3⟩
end
end Go.Proofs.YtancidbbkoeokabGreatDoor
