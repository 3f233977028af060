/- The text of a card; contracts of spec.l07Wide, spec.l07Octs and spec.PutCard. -/
import Derived.Test.YtcnmbolmgifgfaaCardO
import Derived.Test.YtcnmbolmgifgfaaPutOH
import Derived.Test.YtcnmbolmgifgfaaRegSl
import Derived.Deep.DeepCutAuto
import Derived.OwnWalk
namespace Go.Proofs.Ytcnmbolmgifgfaa
open Go.ChangeShapes Go.WideShapes Go.ChangeAt Go.RowKit Go.Deep

/-- The numbers of a card's head and their widths. -/
def flds (c : Card) : List (Int × Int) := [(0, 6), (c.Ino, 6), (c.Mode, 6), (c.Uid, 6), (c.Gid, 6), (c.Count, 6), (0, 6), (c.Time, 11), ((c.Path.size : Int) + 1, 6), ((c.Data.size : Int), 11)]
def octsOk (L : List (Int × Int)) : Bool := L.all fun x => (putOctv x.1 x.2).2
def octsB : List (Int × Int) → List UInt8
  | [] => []
  | x :: L => (putOctv x.1 x.2).1.data.toList ++ octsB L
def octsS (L : List (Int × Int)) : ByteArray := ⟨(octsB L).toArray⟩
theorem octsB_app (L M : List (Int × Int)) : octsB (L ++ M) = octsB L ++ octsB M := by
  induction L with
  | nil => rfl
  | cons x L ih => simp [octsB, ih]
theorem ba_appK (a b : List UInt8) : (⟨(a ++ b).toArray⟩ : ByteArray) = ⟨a.toArray⟩ ++ ⟨b.toArray⟩ := by
  apply ba_ext
  simp
theorem ba_self (s : ByteArray) : (⟨s.data.toList.toArray⟩ : ByteArray) = s := by cases s; simp
theorem octsS_snoc (L : List (Int × Int)) (x : Int × Int) : octsS (L ++ [x]) = octsS L ++ (putOctv x.1 x.2).1 := by
  have h : octsB [x] = (putOctv x.1 x.2).1.data.toList := by simp [octsB]
  rw [octsS, octsB_app, ba_appK, h, ba_self, octsS]
theorem octsOk_take {L : List (Int × Int)} {i : Nat} {x : Int × Int} (h : L[i]? = some x) : octsOk (L.take (i + 1)) = (octsOk (L.take i) && (putOctv x.1 x.2).2) := by
  rw [List.take_add_one, h]
  simp [octsOk]
theorem octsOk_bad {L : List (Int × Int)} {i : Nat} {x : Int × Int} (h : L[i]? = some x) (hk : (putOctv x.1 x.2).2 = false) : octsOk L = false := by
  rw [octsOk, List.all_eq_false]
  exact ⟨x, List.mem_of_getElem? h, by simp [hk]⟩
theorem octs_take {L : List (Int × Int)} {i : Nat} {x : Int × Int} (h : L[i]? = some x) : octsS (L.take (i + 1)) = octsS (L.take i) ++ (putOctv x.1 x.2).1 := by
  rw [List.take_add_one, h]
  exact octsS_snoc _ _
theorem putOct_le (n width : Int) : (putOctv n width).1.size ≤ 20 := by
  unfold putOctv
  split
  · rename_i h
    have h1 := h.1.2.2
    show (ahead (numeral 8 n.toNat) width).toArray.size ≤ 20
    rw [List.size_toArray, ahead_len]
    have h2 := h.1
    unfold Valid at h2
    omega
  · exact Nat.zero_le _
theorem octsS_le (L : List (Int × Int)) : (octsS L).size ≤ 20 * L.length := by
  induction L with
  | nil => exact Nat.zero_le _
  | cons x L ih =>
    have h1 := putOct_le x.1 x.2
    have e1 : (octsS (x :: L)).size = (octsB (x :: L)).length := by simp [octsS, ByteArray.size]
    have e2 : (octsS L).size = (octsB L).length := by simp [octsS, ByteArray.size]
    have e3 : (putOctv x.1 x.2).1.data.toList.length = (putOctv x.1 x.2).1.size := Array.length_toList
    rw [e1, octsB, List.length_append, e3, List.length_cons]
    omega
def octsR (L : List (Int × Int)) : ByteArray := if octsOk L then octsS L else ⟨#[]⟩
theorem octsS_nil : octsS [] = ⟨#[]⟩ := rfl
/-- The text of a card: none where a number has no room. -/
def cardTextv (c : Card) : ByteArray := if octsOk (flds c) then ⟨#[48, 55, 48, 55, 48, 55]⟩ ++ octsS (flds c) ++ c.Path ++ ⟨#[0]⟩ ++ c.Data else ⟨#[]⟩
def wideC : List Int := [6, 6, 6, 6, 6, 6, 6, 11, 6, 11]
/-- A row of numbers. -/
def RowN (w : World) (g : Nat) (l : List Int) : Prop := ∀ i x, l[i]? = some x → w.cell? ⟨g, i, none⟩ = some (.int .i64 x)
theorem RowN.below {w w' : World} {g B : Nat} {l : List Int} (h : RowN w g l) (hb : Below B w w') (hg : g < B) : RowN w' g l := fun i x hx => (hb.cell (p := ⟨g, i, none⟩) hg).trans (h i x hx)
theorem RowN.of {w : World} {g : Nat} {l : List Int} {ty : TypeId} (h : w.heap[g]? = some (.cells (l.map (fun x => Value.int .i64 x)).toArray ty (0, 0))) : RowN w g l := by
  intro i x hx
  simp only [World.cell?, h]
  simp [hx]
theorem wide_spec (w : World) : Calls Try.prog 21 #[] w fun e w' => ∃ G, e = .returned (.slice (some ⟨G, 0, none⟩) 10 10) ∧ w.heap.size ≤ G ∧ w'.heap[G]? = some (.cells #[.int .i64 6, .int .i64 6, .int .i64 6, .int .i64 6, .int .i64 6, .int .i64 6, .int .i64 6, .int .i64 11, .int .i64 6, .int .i64 11] 3 (0, 0)) ∧ Below w.heap.size w w' := by
  go_enter Try.func21, Try.ntmps21
  go_wp2_with fail
  go_ret
  exact ⟨w.heap.size, rfl, Nat.le_refl _, heap_lastG _ _, (Below.refl _ _).alloc (Nat.le_refl _) _⟩
theorem octsR_true {L : List (Int × Int)} (h : octsOk L = true) : octsR L = octsS L := by rw [octsR, if_pos h]
end Go.Proofs.Ytcnmbolmgifgfaa
