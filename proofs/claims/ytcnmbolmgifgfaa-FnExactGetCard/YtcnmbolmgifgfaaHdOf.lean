/- Contract of impl.odcHeadOf: the numbers of a card's head, each at its place. -/
import Derived.Test.YtcnmbolmgifgfaaGetCdM
import Derived.Test.YtcnmbolmgifgfaaCardDig
import Derived.Test.YtcnmbolmgifgfaaEqZ
import Derived.Deep.DeepCutAuto
import Derived.OwnWalk
namespace Go.Proofs.Ytcnmbolmgifgfaa
open Go.ChangeShapes Go.WideShapes Go.ChangeAt Go.RowKit Go.Deep

/-- The cells of a head of which the first k numbers are read. -/
def hdC (s : ByteArray) (j : Nat) : Nat → Array Value
  | 0 => #[.int .i64 0, .int .i64 0, .int .i64 0, .int .i64 0, .int .i64 0, .int .i64 0, .string ⟨#[]⟩, .string ⟨#[]⟩, .int .i64 0, .int .i64 0, .int .i64 0, .int .i64 0]
  | k + 1 => (hdC s j k).setIfInBounds (offv k) (.int .i64 (fN s j k))
theorem hdC_size (s : ByteArray) (j k : Nat) : (hdC s j k).size = 12 := by
  induction k with
  | zero => rfl
  | succ k ih => simp [hdC, ih]
theorem hdC_zeros (s : ByteArray) (j : Nat) : (hdC s j 10)[8]? = some (.int .i64 (fN s j 0)) ∧ (hdC s j 10)[9]? = some (.int .i64 (fN s j 6)) := by
  constructor <;> simp [hdC, offv]
theorem hdC_ten (s : ByteArray) (j : Nat) : hdC s j 10 = #[.int .i64 (fN s j 1), .int .i64 (fN s j 2), .int .i64 (fN s j 3), .int .i64 (fN s j 4), .int .i64 (fN s j 5), .int .i64 (fN s j 7), .string ⟨#[]⟩, .string ⟨#[]⟩, .int .i64 (fN s j 0), .int .i64 (fN s j 6), .int .i64 (fN s j 8), .int .i64 (fN s j 9)] := by
  simp [hdC, offv]
theorem Try.sizeHd : (Try.prog.info? 66).map (·.size) = some 12 := by kernel_rfl
theorem offv_lt : ∀ k, k < 10 → offv k < 12 ∧ True := by decide
theorem heap_newK (w : World) (o : Obj) (g : Nat) (hg : g = w.heap.size) : (w.alloc o).heap[g]? = some o := by subst hg; exact heap_lastG w o
theorem heap_setK {w : World} {g i : Nat} {cs : Array Value} {t : TypeId} {v : Value} (h : w.heap[g]? = some (.cells cs t (0, 0))) : (w.setCell ⟨g, i, none⟩ v).heap[g]? = some (.cells (cs.setIfInBounds i v) t (0, 0)) := by
  have hlt : g < w.heap.size := (Array.getElem?_eq_some_iff.1 h).1
  have hg : w.heap[g] = .cells cs t (0, 0) := (Array.getElem?_eq_some_iff.1 h).2
  simp [World.setCell, hlt, Array.getElem_modify, hg]
theorem ext_pre (s : ByteArray) (a n b : Nat) (h : a + n ≤ b) (_hb : b ≤ s.size) : (s.extract a b).extract 0 n = s.extract a (a + n) := by
  apply ba_ext
  simp
  omega
theorem ext_suf (s : ByteArray) (a n b : Nat) (h : a + n ≤ b) (_hb : b ≤ s.size) : (s.extract a b).extract n (s.extract a b).size = s.extract (a + n) b := by
  apply ba_ext
  simp
  omega
def hdL : List (Int × Int) := (List.range 10).map (fun k => (0, ((wid k : Nat) : Int)))
theorem hdL_at : ∀ k, k < 10 → hdL[k]? = some (0, ((wid k : Nat) : Int)) := by decide
def hdE (s : ByteArray) (j : Nat) : Ending := if allO s j = true ∧ fN s j 0 = 0 ∧ fN s j 6 = 0 then .returned (.agg (hdC s j 10)) else .panicked (panC 3)
set_option maxHeartbeats 3200000 in
set_option maxRecDepth 8000 in
theorem headOf_any (s : ByteArray) (j : Nat) (w : World) (hs : s.size ≤ 1048576) (hj : j + 76 ≤ s.size) :
    Calls Try.prog 44 #[.string (s.extract (j + 6) (j + 76))] w fun e w' => e = hdE s j ∧ Below w.heap.size w w' := by
  have HBad : Hid (∀ k, k < 10 → fO s j k = false → hdE s j = .panicked (panC 3)) := Lib.hid (fun k hk h => by rw [hdE, if_neg (by rw [allO_bad hk h]; simp)])
  have HZ : Hid ((∀ k, k < 10 → fO s j k = true) → (¬ fN s j 0 = 0 ∨ ¬ fN s j 6 = 0) → hdE s j = .panicked (panC 3)) := Lib.hid (fun _ h => by rw [hdE, if_neg (by intro h9; omega)])
  have HG : Hid ((∀ k, k < 10 → fO s j k = true) → fN s j 0 = 0 → fN s j 6 = 0 → hdE s j = .returned (.agg (hdC s j 10))) := Lib.hid (fun h h0 h6 => by rw [hdE, if_pos ⟨allO_good h, h0, h6⟩])
  have HD0 : Hid (s.extract (j + 6) (j + 76) = s.extract (j + 6 + cum 0) (j + 76)) := Lib.hid rfl
  have HF := Lib.hid (fun (w : World) (G gh : Nat) (h : w.heap[G]? = some (.cells (fieldCells gh) 88 (0, 0))) k hk => field_at (L := hdL) h (by decide) (hdL_at k hk))
  generalize hdE s j = E at HBad HZ HG
  rw [HD0.out]
  clear HD0
  have HSz := Lib.hid (fun k => hdC_size s j k)
  go_enter Try.func44, Try.ntmps44
  go_wp2_with fail
  refine (fields_any _ _).mono ?_
  rintro e w1 ⟨G, rfl, hG1, hG2, hb⟩
  have hs0 : w.heap.size + 2 ≤ G := by simpa using hG1
  have W1 := (Below.refl w.heap.size w).alloc (Nat.le_refl _) (.cells #[.int .i64 0, .int .i64 0, .int .i64 0, .int .i64 0, .int .i64 0, .int .i64 0, .string ⟨#[]⟩, .string ⟨#[]⟩, .int .i64 0, .int .i64 0, .int .i64 0, .int .i64 0] 66)
  have W2 := W1.alloc (by simp) (.cells #[.int .i64 0, .int .i64 0, .int .i64 0, .int .i64 0, .int .i64 0, .int .i64 0, .string ⟨#[]⟩, .string ⟨#[]⟩, .int .i64 0, .int .i64 0, .int .i64 0, .int .i64 0] 66)
  have XH : Hid (w1.heap[w.heap.size + 1]? = some (.cells (hdC s j 0) 66 (0, 0))) := Lib.hid ((hb.block _ (by simp)).trans (heap_newK _ _ _ (by simp)))
  have XR : Hid (w1.heap[w.heap.size]? = some (.cells #[.int .i64 0, .int .i64 0, .int .i64 0, .int .i64 0, .int .i64 0, .int .i64 0, .string ⟨#[]⟩, .string ⟨#[]⟩, .int .i64 0, .int .i64 0, .int .i64 0, .int .i64 0] 66 (0, 0))) := Lib.hid ((hb.block _ (by simp; omega)).trans (((Below.refl _ _).alloc (Nat.le_refl _) _).block w.heap.size (by simp) |>.trans (heap_newK _ _ _ rfl)))
  have B := Lib.hid (W2.trans (hb.mono (by simp; omega)))
  have F := Lib.hid hG2
  clear hb hG1 hG2 W1 W2
  go_wp2_with fail
  go_loopw [0, 5, 6, 7, 10] (fun dg _ _ _ u wr => ∃ k : Nat, u = .int .i64 k ∧ k ≤ 10 ∧ dg = .string (s.extract (j + 6 + cum k) (j + 76)) ∧ (∀ m, m < k → fO s j m = true) ∧ wr.heap[w.heap.size + 1]? = some (.cells (hdC s j k) 66 (0, 0)) ∧ wr.heap[w.heap.size]? = some (.cells #[.int .i64 0, .int .i64 0, .int .i64 0, .int .i64 0, .int .i64 0, .int .i64 0, .string ⟨#[]⟩, .string ⟨#[]⟩, .int .i64 0, .int .i64 0, .int .i64 0, .int .i64 0] 66 (0, 0)) ∧ wr.heap[G]? = some (.cells (fieldCells (w.heap.size + 1)) 88 (0, 0)) ∧ Below w.heap.size w wr) (fun _ _ _ _ u _ => 10 - (intOf u).toNat)
  case atStart => exact ⟨0, rfl, by omega, rfl, fun m hm => by omega, XH.out, XR.out, F.out, B.out⟩
  case round =>
    obtain ⟨k, rfl, hk, rfl, hok, hxh, hxr, hf, hb⟩ := hrel
    clear XH XR F B
    have OK := Lib.hid hok
    have XH := Lib.hid hxh
    have XR := Lib.hid hxr
    have F := Lib.hid hf
    have B := Lib.hid hb
    have hszB := B.out.size
    have zG := (Array.getElem?_eq_some_iff.1 hf).1
    have zH := (Array.getElem?_eq_some_iff.1 hxh).1
    clear hok hxh hxr hf hb
    by_cases hlt : k < 10
    · have hlt2 : (k : Int) < 10 := by omega
      obtain ⟨hc1, hc2, hc3, _⟩ := cum_wid k hlt
      obtain ⟨c0, c1⟩ := HF.out wr G (w.heap.size + 1) F.out k hlt
      obtain ⟨ho12, _⟩ := offv_lt k hlt
      have HBk := Lib.hid (HBad.out k hlt)
      have HOn : Hid (fO s j k = true → ∀ m, m < k + 1 → fO s j m = true) := Lib.hid (fun h m hm => by
        by_cases e : m = k
        · subst e; exact h
        · exact OK.out m (by omega))
      have HGo := Lib.hid (fun w => getOct_impl (fB s j k) w (by unfold fB; rw [ByteArray.size_extract]; omega))
      rw [show (getOctv (fB s j k).data.toList).1 = fN s j k from rfl, show (getOctv (fB s j k).data.toList).2 = fO s j k from rfl] at HGo
      have hdz : (s.extract (j + 6 + cum k) (j + 76)).size = 70 - cum k := by rw [ByteArray.size_extract]; omega
      have hS1 : ∀ w, (Instr.slice 9 (.string (s.extract (j + 6 + cum k) (j + 76))) none (some (.int .i64 ((wid k : Nat) : Int))) none).run Try.prog w = .ok (.string (fB s j k)) w := fun w => by
        have h := run_slice_string_h (P := Try.prog) (w := w) (t := 9) (s := s.extract (j + 6 + cum k) (j + 76)) Try.underlying9 .i64 ((wid k : Nat) : Int) (by omega) (by omega)
        rw [Int.toNat_natCast, ext_pre s _ _ _ (by omega) (by omega)] at h
        exact h
      have hS2 : ∀ w, (Instr.slice 9 (.string (s.extract (j + 6 + cum k) (j + 76))) (some (.int .i64 ((wid k : Nat) : Int))) none none).run Try.prog w = .ok (.string (s.extract (j + 6 + cum (k + 1)) (j + 76))) w := fun w => by
        have h := run_slice_string_l (P := Try.prog) (w := w) (t := 9) (s := s.extract (j + 6 + cum k) (j + 76)) Try.underlying9 .i64 ((wid k : Nat) : Int) (by omega) (by omega)
        rw [Int.toNat_natCast, ext_suf s _ _ _ (by omega) (by omega), show j + 6 + cum k + wid k = j + 6 + cum (k + 1) from by omega] at h
        exact h
      have HHs : Hid (hdC s j (k + 1) = (hdC s j k).setIfInBounds (offv k) (.int .i64 (fN s j k))) := Lib.hid rfl
      have hhz := HSz.out k
      clear hdz hc1 hc2 hc3
      generalize fB s j k = fb at hS1 HGo
      generalize fO s j k = okk at HBk HOn HGo
      generalize fN s j k = x at HHs HGo
      generalize s.extract (j + 6 + cum k) (j + 76) = dg at hS1 hS2
      generalize hdg2 : s.extract (j + 6 + cum (k + 1)) (j + 76) = dg2 at hS2
      have HDg := Lib.hid hdg2
      clear hdg2
      generalize offv k = oi at c0 ho12 HHs
      generalize wid k = wk at c1 hS1 hS2
      obtain ⟨wo, hwo⟩ : ∃ wo, wo = wr := ⟨_, rfl⟩
      subst hwo
      go_upto_region 5 with fail
      generalize hw6 : World.alloc wo _ = w6
      have NB : Below wo.heap.size wo w6 := by rw [← hw6]; exact (Below.refl _ _).alloc (Nat.le_refl _) _
      have XB : w6.heap[wo.heap.size]? = some (.cells #[.pointer (some ⟨w.heap.size + 1, oi, none⟩), .int .i64 wk] 88 (0, 0)) := by rw [← hw6]; exact heap_lastG _ _
      clear hw6 c0 c1
      have zbx := (Array.getElem?_eq_some_iff.1 XB).1
      replace XH := Lib.hid ((NB.block _ zH).trans XH.out)
      replace XR := Lib.hid ((NB.block _ (by omega)).trans XR.out)
      replace F := Lib.hid ((NB.block G zG).trans F.out)
      replace B := Lib.hid (B.out.trans (NB.mono hszB))
      have b0 : w6.cell? ⟨wo.heap.size, 0, none⟩ = some (.pointer (some ⟨w.heap.size + 1, oi, none⟩)) := by simp [World.cell?, XB]
      have b1 : w6.cell? ⟨wo.heap.size, 1, none⟩ = some (.int .i64 wk) := by simp [World.cell?, XB]
      have XBh := Lib.hid XB
      clear NB XB
      go_wp2_with fail
      refine (HGo.out _).mono ?_
      rintro e w7 ⟨rfl, rfl⟩
      cases okk with
      | false =>
        have HF2 : Hid (E = .panicked (panC 3)) := Lib.hid (HBk.out rfl)
        clear HBk HOn HGo
        go_wp2_with fail
        refine (demand_no 3 _).mono ?_
        rintro e w8 ⟨rfl, rfl⟩
        exact ⟨rfl, by rw [HF2.out], B.out⟩
      | true =>
        have HOn2 := Lib.hid (HOn.out rfl)
        clear HBk HOn HGo
        go_wp2_with fail
        refine (demand_ok 3 _).mono ?_
        rintro e w8 ⟨rfl, rfl⟩
        have hcell : w8.cell? ⟨w.heap.size + 1, oi, none⟩ = some ((hdC s j k).getD oi undef) := by simp [World.cell?, XH.out, hhz, ho12]
        have hfz : w8.frozen? ⟨w.heap.size + 1, oi, none⟩ = false := by simp [World.frozen?, XH.out]
        go_upto_region 8 with fail
        generalize hw9 : World.setCell w8 _ _ = w9
        have hne : wo.heap.size ≠ w.heap.size + 1 := by omega
        have XH9 : Hid (w9.heap[w.heap.size + 1]? = some (.cells (hdC s j (k + 1)) 66 (0, 0))) := Lib.hid (by rw [← hw9, HHs.out]; exact heap_setK XH.out)
        have XR9 : Hid (w9.heap[w.heap.size]? = some (.cells #[.int .i64 0, .int .i64 0, .int .i64 0, .int .i64 0, .int .i64 0, .int .i64 0, .string ⟨#[]⟩, .string ⟨#[]⟩, .int .i64 0, .int .i64 0, .int .i64 0, .int .i64 0] 66 (0, 0))) := Lib.hid (by rw [← hw9, Below.heap_setCell _ _ _ _ (by simp)]; exact XR.out)
        have F9 : Hid (w9.heap[G]? = some (.cells (fieldCells (w.heap.size + 1)) 88 (0, 0))) := Lib.hid (by rw [← hw9, Below.heap_setCell _ _ _ _ (by simp; omega)]; exact F.out)
        have B9 : Hid (Below w.heap.size w w9) := Lib.hid (by rw [← hw9]; exact B.out.setCell (by simp) _)
        have b9 : w9.cell? ⟨wo.heap.size, 1, none⟩ = some (.int .i64 wk) := by
          have h10 := Below.heap_setCell w8 ⟨w.heap.size + 1, oi, none⟩ (.int .i64 x) wo.heap.size (by simp; omega)
          rw [hw9, XBh.out] at h10
          simp [World.cell?, h10]
        clear hw9 hcell hfz b0 b1 XH XR F B XBh hne
        go_wp2_with fail
        go_roundw
        case rel => exact ⟨k + 1, by go_num, by omega, by rw [HDg.out], HOn2.out, XH9.out, XR9.out, F9.out, B9.out⟩
        case measure => simp [intOf]; omega
    · obtain rfl : k = 10 := by omega
      have hlt2 : ¬ ((10 : Nat) : Int) < 10 := by omega
      have hten := hdC_ten s j
      have HEq := fun w => eq_zeros (fN s j 0) (fN s j 6) w
      have HZ2 := Lib.hid (HZ.out OK.out)
      have HG2 := Lib.hid (HG.out OK.out)
      have X0 := XH.out
      rw [hten] at HG2 X0
      clear hten HZ HG HBad HF HSz XH OK
      generalize fN s j 0 = x0 at HZ2 HG2 HEq X0
      generalize fN s j 6 = x6 at HZ2 HG2 HEq X0
      generalize fN s j 1 = x1 at HG2 X0
      generalize fN s j 2 = x2 at HG2 X0
      generalize fN s j 3 = x3 at HG2 X0
      generalize fN s j 4 = x4 at HG2 X0
      generalize fN s j 5 = x5 at HG2 X0
      generalize fN s j 7 = x7 at HG2 X0
      generalize fN s j 8 = x8 at HG2 X0
      generalize fN s j 9 = x9 at HG2 X0
      have h8 : wr.cell? ⟨w.heap.size + 1, 8, none⟩ = some (.int .i64 x0) := by simp [World.cell?, X0]
      have h9 : wr.cell? ⟨w.heap.size + 1, 9, none⟩ = some (.int .i64 x6) := by simp [World.cell?, X0]
      have XH := Lib.hid X0
      clear X0
      go_wp2_with fail
      by_cases hz : x0 = 0 ∧ x6 = 0
      · obtain ⟨rfl, rfl⟩ := hz
        have HE9 := Lib.hid (HG2.out rfl rfl)
        rw [show (decide ((0 : Int) = 0) && decide ((0 : Int) = 0)) = true from rfl]
        clear HEq h8 h9 HZ2 HG2
        refine (demand_ok 3 _).mono ?_
        rintro e w8 ⟨rfl, rfl⟩
        have s0 : w8.cell? ⟨w.heap.size + 1, 0, none⟩ = some (.int .i64 x1) := by simp [World.cell?, XH.out]
        have s1 : w8.cell? ⟨w.heap.size + 1, 1, none⟩ = some (.int .i64 x2) := by simp [World.cell?, XH.out]
        have s2 : w8.cell? ⟨w.heap.size + 1, 2, none⟩ = some (.int .i64 x3) := by simp [World.cell?, XH.out]
        have s3 : w8.cell? ⟨w.heap.size + 1, 3, none⟩ = some (.int .i64 x4) := by simp [World.cell?, XH.out]
        have s4 : w8.cell? ⟨w.heap.size + 1, 4, none⟩ = some (.int .i64 x5) := by simp [World.cell?, XH.out]
        have s5 : w8.cell? ⟨w.heap.size + 1, 5, none⟩ = some (.int .i64 x7) := by simp [World.cell?, XH.out]
        have s6 : w8.cell? ⟨w.heap.size + 1, 6, none⟩ = some (.string ⟨#[]⟩) := by simp [World.cell?, XH.out]
        have s7 : w8.cell? ⟨w.heap.size + 1, 7, none⟩ = some (.string ⟨#[]⟩) := by simp [World.cell?, XH.out]
        have s8 : w8.cell? ⟨w.heap.size + 1, 8, none⟩ = some (.int .i64 0) := by simp [World.cell?, XH.out]
        have s9 : w8.cell? ⟨w.heap.size + 1, 9, none⟩ = some (.int .i64 0) := by simp [World.cell?, XH.out]
        have s10 : w8.cell? ⟨w.heap.size + 1, 10, none⟩ = some (.int .i64 x8) := by simp [World.cell?, XH.out]
        have s11 : w8.cell? ⟨w.heap.size + 1, 11, none⟩ = some (.int .i64 x9) := by simp [World.cell?, XH.out]
        have r0 : w8.cell? ⟨w.heap.size, 0, none⟩ = some (.int .i64 0) := by simp [World.cell?, XR.out]
        have r1 : w8.cell? ⟨w.heap.size, 1, none⟩ = some (.int .i64 0) := by simp [World.cell?, XR.out]
        have r2 : w8.cell? ⟨w.heap.size, 2, none⟩ = some (.int .i64 0) := by simp [World.cell?, XR.out]
        have r3 : w8.cell? ⟨w.heap.size, 3, none⟩ = some (.int .i64 0) := by simp [World.cell?, XR.out]
        have r4 : w8.cell? ⟨w.heap.size, 4, none⟩ = some (.int .i64 0) := by simp [World.cell?, XR.out]
        have r5 : w8.cell? ⟨w.heap.size, 5, none⟩ = some (.int .i64 0) := by simp [World.cell?, XR.out]
        have r6 : w8.cell? ⟨w.heap.size, 6, none⟩ = some (.string ⟨#[]⟩) := by simp [World.cell?, XR.out]
        have r7 : w8.cell? ⟨w.heap.size, 7, none⟩ = some (.string ⟨#[]⟩) := by simp [World.cell?, XR.out]
        have r8 : w8.cell? ⟨w.heap.size, 8, none⟩ = some (.int .i64 0) := by simp [World.cell?, XR.out]
        have r9 : w8.cell? ⟨w.heap.size, 9, none⟩ = some (.int .i64 0) := by simp [World.cell?, XR.out]
        have r10 : w8.cell? ⟨w.heap.size, 10, none⟩ = some (.int .i64 0) := by simp [World.cell?, XR.out]
        have r11 : w8.cell? ⟨w.heap.size, 11, none⟩ = some (.int .i64 0) := by simp [World.cell?, XR.out]
        have z0 : w8.frozen? ⟨w.heap.size, 0, none⟩ = false := by simp [World.frozen?, XR.out]
        have z1 : w8.frozen? ⟨w.heap.size, 1, none⟩ = false := by simp [World.frozen?, XR.out]
        have z2 : w8.frozen? ⟨w.heap.size, 2, none⟩ = false := by simp [World.frozen?, XR.out]
        have z3 : w8.frozen? ⟨w.heap.size, 3, none⟩ = false := by simp [World.frozen?, XR.out]
        have z4 : w8.frozen? ⟨w.heap.size, 4, none⟩ = false := by simp [World.frozen?, XR.out]
        have z5 : w8.frozen? ⟨w.heap.size, 5, none⟩ = false := by simp [World.frozen?, XR.out]
        have z6 : w8.frozen? ⟨w.heap.size, 6, none⟩ = false := by simp [World.frozen?, XR.out]
        have z7 : w8.frozen? ⟨w.heap.size, 7, none⟩ = false := by simp [World.frozen?, XR.out]
        have z8 : w8.frozen? ⟨w.heap.size, 8, none⟩ = false := by simp [World.frozen?, XR.out]
        have z9 : w8.frozen? ⟨w.heap.size, 9, none⟩ = false := by simp [World.frozen?, XR.out]
        have z10 : w8.frozen? ⟨w.heap.size, 10, none⟩ = false := by simp [World.frozen?, XR.out]
        have z11 : w8.frozen? ⟨w.heap.size, 11, none⟩ = false := by simp [World.frozen?, XR.out]
        go_wp2_with fail
        have hR := heap_setK (i := 11) (v := .int .i64 x9) (heap_setK (i := 10) (v := .int .i64 x8) (heap_setK (i := 9) (v := .int .i64 0) (heap_setK (i := 8) (v := .int .i64 0) (heap_setK (i := 7) (v := .string ⟨#[]⟩) (heap_setK (i := 6) (v := .string ⟨#[]⟩) (heap_setK (i := 5) (v := .int .i64 x7) (heap_setK (i := 4) (v := .int .i64 x5) (heap_setK (i := 3) (v := .int .i64 x4) (heap_setK (i := 2) (v := .int .i64 x3) (heap_setK (i := 1) (v := .int .i64 x2) (heap_setK (i := 0) (v := .int .i64 x1) (XR.out))))))))))))
        have hB := ((((((((((((B.out).setCell (p := ⟨w.heap.size, 0, none⟩) (Nat.le_refl _) (.int .i64 x1)).setCell (p := ⟨w.heap.size, 1, none⟩) (Nat.le_refl _) (.int .i64 x2)).setCell (p := ⟨w.heap.size, 2, none⟩) (Nat.le_refl _) (.int .i64 x3)).setCell (p := ⟨w.heap.size, 3, none⟩) (Nat.le_refl _) (.int .i64 x4)).setCell (p := ⟨w.heap.size, 4, none⟩) (Nat.le_refl _) (.int .i64 x5)).setCell (p := ⟨w.heap.size, 5, none⟩) (Nat.le_refl _) (.int .i64 x7)).setCell (p := ⟨w.heap.size, 6, none⟩) (Nat.le_refl _) (.string ⟨#[]⟩)).setCell (p := ⟨w.heap.size, 7, none⟩) (Nat.le_refl _) (.string ⟨#[]⟩)).setCell (p := ⟨w.heap.size, 8, none⟩) (Nat.le_refl _) (.int .i64 0)).setCell (p := ⟨w.heap.size, 9, none⟩) (Nat.le_refl _) (.int .i64 0)).setCell (p := ⟨w.heap.size, 10, none⟩) (Nat.le_refl _) (.int .i64 x8)).setCell (p := ⟨w.heap.size, 11, none⟩) (Nat.le_refl _) (.int .i64 x9)
        clear s0 r0 z0 s1 r1 z1 s2 r2 z2 s3 r3 z3 s4 r4 z4 s5 r5 z5 s6 r6 z6 s7 r7 z7 s8 r8 z8 s9 r9 z9 s10 r10 z10 s11 r11 z11
        generalize World.setCell _ ⟨w.heap.size, 11, none⟩ _ = w9 at hR hB ⊢
        simp only [List.setIfInBounds_toArray, List.set_cons_succ, List.set_cons_zero] at hR
        refine bodyPost_ret (results_cell_row rfl _ _ w.heap.size _ #[.int .i64 x1, .int .i64 x2, .int .i64 x3, .int .i64 x4, .int .i64 x5, .int .i64 x7, .string ⟨#[]⟩, .string ⟨#[]⟩, .int .i64 0, .int .i64 0, .int .i64 x8, .int .i64 x9] (0, 0) _ rfl hR Try.underlying66 rfl (by rw [Try.sizeHd]; rfl)) rfl ?_
        exact ⟨HE9.out.symm, hB⟩
      · have HE9 : Hid (E = .panicked (panC 3)) := Lib.hid (HZ2.out (by omega))
        rw [show (decide (x0 = 0) && decide (x6 = 0)) = false from by simpa using hz]
        clear HEq h8 h9 HZ2 HG2
        refine (demand_no 3 _).mono ?_
        rintro e w8 ⟨rfl, rfl⟩
        exact ⟨rfl, by rw [HE9.out], B.out⟩
end Go.Proofs.Ytcnmbolmgifgfaa
