/- append(append(append([]T{}, out[:q]...), x), out[q:]...) : three appends in one statement that draws its order. -/
import Derived.Test.YtlbkojiengofeabMergeE
import Derived.Deep.RegionHeldLaw
import Derived.BigQuiet
namespace Go.Proofs.Ytlbkojiengofeab
open Go.ChangeShapes Go.WideShapes Go.ChangeAt Go.RowKit Go.Deep

/-- An append onto a row of the call's own, as a step of a region that draws. -/
theorem step_append_mine {P : Program} {w : World} {ops : Array Oper} {o : Oper} {a : Act} {K : Act → World → Prop} {Q : Exit → Act → World → Prop} {E : Prop} (hgd : o.guard = none) (s x : Operand) (t : TypeId)
    (ho : o.op = .call { callee := .builtin .append, args := #[s, x], argTypes := #[t, t] })
    (base : Nat) (e : TypeId) (i : TypeInfo) (z : Value) (size bytes : Nat) (ht : P.underlying t = some (.slice e)) (hi : P.info? e = some i) (hz : i.zero = some z)
    (hsize : i.size = size) (hby : i.bytes = bytes) (hzs : z.cells.size = size) (hsz : 0 < size)
    (v : Value) (n : Nat) (xs : List Value) (hs : a.eval s = v) (hown : w.ownsRow base e size v n xs)
    (ad : Addr) (m c : Nat) (news : List Value) (hx : a.eval x = .slice (some ad) m c) (hl : news.length = m * size) (hnews : ∀ j u, news[j]? = some u → w.cell? (ad.add j) = some u) (h1 : ∀ u ∈ news, u.oneCell' = true)
    (h63 : n + m ≤ maxLen) (hbytes : (n + m) * bytes ≤ 140737488355328) (hbase : base ≤ w.heap.size)
    (h : ∀ v' w', w'.ownsRow base e size v' (n + m) (xs ++ news) → w.grownBy w' v.ownBlock → (v' = .slice none 0 0 ↔ v = .slice none 0 0 ∧ m = 0) → K (a.put o.dst v') w') :
    if Region.wanted o (yielded ops a.tmps) = true then Oper.wp P o a w K Q else E := by
  have hw : Region.wanted o (yielded ops a.tmps) = true := by simp [Region.wanted, hgd]
  rw [if_pos hw]
  exact wp_append_own w s x t ho base e i z size bytes ht hi hz hsize hby hzs hsz v n xs hs hown ad m c news hx hl hnews h1 h63 hbytes hbase h
theorem kb0 (W : World) : Below W.heap.size W W.drew := (Below.refl _ _).drew
theorem kb1 (W : World) (o : Obj) : Below W.heap.size W (W.drew.alloc o) := (kb0 W).alloc (Nat.le_refl _) o
theorem kb2 (W : World) (o o' : Obj) : Below W.heap.size W ((W.drew.alloc o).alloc o') := (kb1 W o).alloc (by simp) o'
theorem kbA {W w1 : World} (h : Below W.heap.size W w1) (o : Obj) : Below W.heap.size W (w1.alloc o) := h.alloc h.size o
theorem litOwn (W : World) (base : Nat) (hb : base ≤ W.heap.size) : (W.alloc (.cells #[] 51)).ownsRow base 51 10 (.slice (some ⟨W.heap.size, 0, none⟩) 0 0) 0 [] := World.ownsRow_lit W #[] 0 hb (by simp) rfl
theorem news1 {W w' : World} {gd : Nat} {D : List Ent} (hb : Below W.heap.size W w') (hg : gd < W.heap.size) (h : RowE W gd D) (q : Nat) : ∀ j u, (entVals (D.take q))[j]? = some u → w'.cell? ((⟨gd, 0, none⟩ : Addr).add j) = some u := RowE.news0 ((h.below hb hg).take q)
theorem postB {W w' w1 : World} {n : Nat} {v : Value} {xs : List Value} (hb : Below W.heap.size W w') (ho : w'.ownsRow W.heap.size 51 10 v n xs) (hg : w'.grownBy w1 v.ownBlock) : Below W.heap.size W w1 := hb.grown hg hb.size (fun k hk => (World.ownsRow.lt ho k hk).1)
theorem nil1 {v' : Value} {G n cap m : Nat} (h : v' = .slice none 0 0 ↔ Value.slice (some ⟨G, 0, none⟩) n cap = .slice none 0 0 ∧ m = 0) : ¬ v' = .slice none 0 0 := fun e => by have := (h.1 e).1; simp at this
theorem nil2 {v' v : Value} {m : Nat} (h : v' = .slice none 0 0 ↔ v = .slice none 0 0 ∧ m = 0) (hv : ¬ v = .slice none 0 0) : ¬ v' = .slice none 0 0 := fun e => hv (h.1 e).1
theorem newsG {w' w1 : World} {G : Nat} {row : Option Nat} {xs : List Value} (h : ∀ j u, xs[j]? = some u → w'.cell? ((⟨G, 0, none⟩ : Addr).add j) = some u) (hg : w'.grownBy w1 row) (hn : some G ≠ row) : ∀ j u, xs[j]? = some u → w1.cell? ((⟨G, 0, none⟩ : Addr).add j) = some u := by
  intro j u hu
  have h1 := h j u hu
  rw [show (⟨G, 0, none⟩ : Addr).add j = ⟨G, j, none⟩ from by unfold Addr.add; split <;> simp_all] at h1 ⊢
  exact hg.cell h1 hn
theorem newsA {w' : World} {G : Nat} {o : Obj} {xs : List Value} (h : ∀ j u, xs[j]? = some u → w'.cell? ((⟨G, 0, none⟩ : Addr).add j) = some u) : ∀ j u, xs[j]? = some u → (w'.alloc o).cell? ((⟨G, 0, none⟩ : Addr).add j) = some u := fun j u hu => (World.grownBy_alloc w' o none).cell (h j u hu) (by simp)
theorem post47 {W w' w1 : World} {G n cap : Nat} (hb : Below W.heap.size W w') (hg : w'.grownBy w1 (Value.ownBlock (.slice (some ⟨G, 0, none⟩) n cap))) (hG : W.heap.size ≤ G := by simp) : Below W.heap.size W w1 := hb.grown hg hb.size (fun k hk => by simp [Value.ownBlock] at hk; omega)
end Go.Proofs.Ytlbkojiengofeab
