/- The draws of strings: spec.l01Pick, spec.l01Bent. Only the length of what they return is bounded. -/
import Derived.Test.YtndgppabfdeecaaDoorNew
import Derived.Deep.RegionWith
import Derived.WalkSpells
import Derived.IntWalk
namespace Go.Proofs.YtndgppabfdeecaaDoor
open Go.ChangeShapes Go.WideShapes Go.ChangeAt Go.RowKit

/-- A string drawn, no longer than m. -/
def DrawnS (m : Nat) (base : Nat) (a : Option Addr) (len cap c : Nat) (w : World) (e : Ending) (w' : World) : Prop :=
  ∃ s : ByteArray, s.size ≤ m ∧ e = .returned (.string s) ∧ CurAt base a len cap w' c ∧ w.grownBy w' (some c)
def ListSAt (m : Nat) (w : World) (g n : Nat) : Prop := ∀ k, k < n → ∃ s : ByteArray, s.size ≤ m ∧ w.cell? ⟨g, k, none⟩ = some (.string s)
theorem listSAt_lit (m : Nat) (w : World) (zs : List ByteArray) (hR : ∀ z ∈ zs, z.size ≤ m) (t : TypeId) : ListSAt m (w.alloc (.cells (zs.map Value.string).toArray t)) w.heap.size zs.length := fun k hk => by
  refine ⟨zs[k], hR _ (List.getElem_mem hk), ?_⟩
  rw [World.cell?_alloc_new]
  simp [List.getElem?_eq_getElem hk]
theorem pick_any (m : Nat) (base : Nat) (a : Option Addr) (len cap c g n : Nat) (w : World) (hC : CurAt base a len cap w c) (hL : ListSAt m w g n) (hg : g ≠ c) (h0 : 1 ≤ n) (h1 : n ≤ 256) :
    Calls Tryd.prog 65 #[.pointer (some ⟨c, 0, none⟩), .slice (some ⟨g, 0, none⟩) n n] w (DrawnS m base a len cap c w) := by
  have HC := Lib.hid hC
  have HL := Lib.hid hL
  clear hC hL
  go_enter Tryd.func65, Tryd.ntmps65
  go_wp2_with fail
  refine (below_any base a len cap c n _ HC.out (by omega) (by omega)).mono ?_
  rintro e w1 ⟨x, hx, rfl, hc1, g1⟩
  obtain ⟨k, rfl⟩ := Int.eq_ofNat_of_zero_le hx.1
  obtain ⟨z, hz, hcell⟩ := HL.out k (by omega)
  have hcell1 : w1.cell? ⟨g, k, none⟩ = some (.string z) := g1.cell hcell (by simpa using hg)
  have C1 := Lib.hid hc1
  have G1 := Lib.hid g1
  have HZ := Lib.hid hz
  have hlt : (k : Int) < (n : Int) := by omega
  clear hc1 g1 hz hcell
  go_wp2_with fail
  go_ret
  exact ⟨_, HZ.out, rfl, C1.out, G1.out⟩
theorem gallocd (w : World) (o : Obj) (row : Option Nat) : w.grownBy (w.alloc o).drew row := ⟨rfl, rfl, rfl, by simp, fun k hk _ => Below.heap_alloc w o k hk⟩
set_option maxHeartbeats 1600000 in
theorem bent_any (base : Nat) (a : Option Addr) (len cap c : Nat) (s : ByteArray) (w : World) (hC : CurAt base a len cap w c) (hs : s.size ≤ 100) :
    Calls Tryd.prog 54 #[.pointer (some ⟨c, 0, none⟩), .string s] w (DrawnS (s.size + 2) base a len cap c w) := by
  have HC := Lib.hid hC
  clear hC
  go_enter Tryd.func54, Tryd.ntmps54
  go_wp2_with fail
  refine (below_any base a len cap c _ _ HC.out (by omega) (by omega)).mono ?_
  rintro e w1 ⟨x, hx, rfl, hc1, g1⟩
  obtain ⟨i, rfl⟩ := Int.eq_ofNat_of_zero_le hx.1
  have hi : i ≤ s.size := by omega
  have hii : (i : Int) ≤ (s.size : Int) := by omega
  have C1 := Lib.hid hc1
  have G1 := Lib.hid g1
  clear hc1 g1
  go_wp2_with fail
  refine (below_any base a len cap c _ _ C1.out (by omega) (by omega)).mono ?_
  rintro e w2 ⟨y, hy, rfl, hc2, g2⟩
  have C2 := Lib.hid hc2
  have G2 := Lib.hid (gtrans G1.out g2)
  clear hc2 g2
  by_cases h0 : y = 0
  · subst h0
    go_wp2_with fail
    go_ret
    exact ⟨_, by rw [ByteArray.size_extract]; omega, rfl, C2.out, G2.out⟩
  · have e0 : (y == 0) = false := by simp [h0]
    by_cases h1 : y = 1
    · subst h1
      have HL := Lib.hid (listSAt_lit 1 w2 [⟨#[48]⟩, ⟨#[32]⟩, ⟨#[0]⟩, ⟨#[56]⟩, ⟨#[120]⟩, ⟨#[255]⟩] (by intro z hz; simp at hz; rcases hz with rfl | rfl | rfl | rfl | rfl | rfl <;> decide) 9)
      have hne := Nat.ne_of_gt C2.out.lt
      have hx1 : (s.extract 0 i).size ≤ 100 := by rw [ByteArray.size_extract]; omega
      have hx2 : (s.extract i s.size).size ≤ 100 := by rw [ByteArray.size_extract]; omega
      go_wp2_with fail
      go_region_with (go_at_call 65; refine (pick_any 1 base a len cap c w2.heap.size 6 _ (by exact C2.out.alloc _) (by exact HL.out) hne (by omega) (by omega)).mono ?_; rintro e w3 ⟨t, ht, rfl, hc3, g3⟩; have C3 := Lib.hid hc3; have G3 := Lib.hid g3; clear hc3 g3)
      all_goals
        go_wp2
        go_ret
        refine ⟨_, ?_, rfl, C3.out, gtrans G2.out (gtrans (gallocd _ _ _) G3.out)⟩
        simp only [ByteArray.size_append, ByteArray.size_extract]
        omega
    · have e1 : (y == 1) = false := by simp [h1]
      by_cases h2 : y = 2
      · subst h2
        by_cases hlt : (i : Int) < (s.size : Int)
        · have HL := Lib.hid (listSAt_lit 1 w2 [⟨#[48]⟩, ⟨#[32]⟩, ⟨#[0]⟩, ⟨#[57]⟩, ⟨#[103]⟩] (by intro z hz; simp at hz; rcases hz with rfl | rfl | rfl | rfl | rfl <;> decide) 9)
          have hne := Nat.ne_of_gt C2.out.lt
          have hx1 : (s.extract 0 i).size ≤ 100 := by rw [ByteArray.size_extract]; omega
          have hx2 : (s.extract (i + 1) s.size).size ≤ 100 := by rw [ByteArray.size_extract]; omega
          have f1 : IntKind.i64.wrap ((i : Int) + 1) = (i : Int) + 1 := IntWalk.i64_in _ (by omega)
          have f2 : (0 : Int) ≤ (i : Int) + 1 := by omega
          have f3 : ((i : Int) + 1).toNat = i + 1 := by omega
          have f4 : (i : Int) + 1 ≤ (s.size : Int) := by omega
          go_wp2_with fail
          go_region_with (go_at_call 65; refine (pick_any 1 base a len cap c w2.heap.size 5 _ (by exact C2.out.alloc _) (by exact HL.out) hne (by omega) (by omega)).mono ?_; rintro e w3 ⟨t, ht, rfl, hc3, g3⟩; have C3 := Lib.hid hc3; have G3 := Lib.hid g3; clear hc3 g3)
          all_goals
            go_wp2
            go_ret
            refine ⟨_, ?_, rfl, C3.out, gtrans G2.out (gtrans (gallocd _ _ _) G3.out)⟩
            simp only [ByteArray.size_append, ByteArray.size_extract]
            omega
        · go_wp2_with fail
          go_ret
          exact ⟨s, by omega, rfl, C2.out, G2.out⟩
      · have e2 : (y == 2) = false := by simp [h2]
        go_wp2_with fail
        go_ret
        exact ⟨s, by omega, rfl, C2.out, G2.out⟩
end Go.Proofs.YtndgppabfdeecaaDoor
