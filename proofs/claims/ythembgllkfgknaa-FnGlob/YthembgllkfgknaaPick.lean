/- spec.l01Pick in a dump without l01Bent (as in DrawStr.t). -/
import Derived.Test.YthembgllkfgknaaNew
import Derived.Deep.RegionWith
import Derived.IntWalk
namespace Go.Proofs.Ythembgllkfgknaa
open Go.ChangeShapes Go.WideShapes Go.ChangeAt Go.RowKit

/-- A string drawn, no longer than m. -/
def DrawnS (m : Nat) (base : Nat) (a : Option Addr) (len cap c : Nat) (w : World) (e : Ending) (w' : World) : Prop :=
  ∃ s : ByteArray, s.size ≤ m ∧ e = .returned (.string s) ∧ CurAt base a len cap w' c ∧ w.grownBy w' (some c)
def ListSAt (m : Nat) (w : World) (g n : Nat) : Prop := ∀ k, k < n → ∃ s : ByteArray, s.size ≤ m ∧ w.cell? ⟨g, k, none⟩ = some (.string s)
theorem listSAt_lit (m : Nat) (w : World) (zs : List ByteArray) (hR : ∀ z ∈ zs, z.size ≤ m) (t : TypeId) : ListSAt m (w.alloc (.cells (zs.map Value.string).toArray t)) w.heap.size zs.length := fun k hk => by
  refine ⟨zs[k], hR _ (List.getElem_mem hk), ?_⟩
  rw [World.cell?_alloc_new]
  simp [List.getElem?_eq_getElem hk]
theorem pick_any (m : Nat) (base : Nat) (a : Option Addr) (len cap c g n : Nat) (w : World) (hC : CurAt base a len cap w c) (hL : ListSAt m w g n) (hg : g ≠ c) (h0 : 1 ≤ n) (h1 : n ≤ 256) :
    Calls Try.prog 21 #[.pointer (some ⟨c, 0, none⟩), .slice (some ⟨g, 0, none⟩) n n] w (DrawnS m base a len cap c w) := by
  have HC := Lib.hid hC
  have HL := Lib.hid hL
  clear hC hL
  go_enter Try.func21, Try.ntmps21
  go_wp2_with fail
  refine (below_any base a len cap c n _ HC.out (by omega) (by omega)).mono ?_
  rintro e w1 ⟨x, hx, rfl, hc1, g1⟩
  obtain ⟨k, rfl⟩ := Int.eq_ofNat_of_zero_le hx.1
  obtain ⟨z, hz, hcell⟩ := HL.out k (by omega)
  have hcell1 : w1.cell? ⟨g, k, none⟩ = some (.string z) := g1.cell hcell (by simpa using hg)
  have C1 := Lib.hid hc1
  have G1 := Lib.hid g1
  have HZ := Lib.hid hz
  have hlt : (k : Int) < (n : Int) := by omega
  clear hc1 g1 hz hcell
  go_wp2_with fail
  go_ret
  exact ⟨_, HZ.out, rfl, C1.out, G1.out⟩
theorem gallocd (w : World) (o : Obj) (row : Option Nat) : w.grownBy (w.alloc o).drew row := ⟨rfl, rfl, rfl, by simp, fun k hk _ => Below.heap_alloc w o k hk⟩
end Go.Proofs.Ythembgllkfgknaa
