/- A list with what it needs: plain mathematics. -/
import Derived.Test.YtlbkojiengofeabNeedI
import Derived.Test.YtlbkojiengofeabMergeI
namespace Go.Proofs.Ytlbkojiengofeab
open Go.RowKit

/-- A directory with a mode. -/
def dirE (q : Int) (d : ByteArray) : Ent := ⟨1, d, ⟨#[]⟩, q, 0, 0, 0, ⟨#[]⟩, ⟨#[]⟩, ⟨#[]⟩⟩
def dirsTo (q : Int) (N : List ByteArray) (i : Nat) : List Ent := (N.take i).map (dirE q)
def withv (L : List Ent) (q : Int) : List Ent := if listOkv ((needv L).map (dirE q) ++ L) = true then (needv L).map (dirE q) ++ L else L
theorem dirsTo_step {q : Int} {N : List ByteArray} {i : Nat} {d : ByteArray} (h : N[i]? = some d) : dirsTo q N (i + 1) = dirsTo q N i ++ [dirE q d] := by
  unfold dirsTo
  rw [List.take_add_one, h]
  simp
theorem dirsTo_len (q : Int) (N : List ByteArray) (i : Nat) : (dirsTo q N i).length ≤ i := by simp [dirsTo]; omega
theorem dirsTo_all (q : Int) (N : List ByteArray) : dirsTo q N N.length = N.map (dirE q) := by simp [dirsTo]
theorem dirs_small {L : List Ent} (h : SmallL L) (q : Int) : SmallL ((needv L).map (dirE q) ++ L) := by
  intro e he
  rcases List.mem_append.1 he with he | he
  · obtain ⟨d, hd, rfl⟩ := List.mem_map.1 he
    obtain ⟨f, hf, hx⟩ := needv_mem hd
    have h1 := parents_size f.path d hx
    have h2 := (small_parts (h f hf)).1
    simp only [esz, dirE]
    have : (⟨#[]⟩ : ByteArray).size = 0 := rfl
    omega
  · exact h e he
theorem withv_len (L : List Ent) (q : Int) : (withv L q).length ≤ totL L + L.length := by
  have h := needv_len L
  rw [withv]
  split
  · simp [totL]; omega
  · omega
end Go.Proofs.Ytlbkojiengofeab
