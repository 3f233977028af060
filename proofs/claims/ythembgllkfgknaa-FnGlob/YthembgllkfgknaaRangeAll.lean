/- A range over a function whose body always falls off its end, where what the body keeps may lie in blocks that are no cells (a map that a round has made): my own rule, from the library's rules on the statement's steps. -/
import Derived.Test.YthembgllkfgknaaToks
namespace Go.Proofs.Ythembgllkfgknaa
open Go.RowKit Go.Shelf

/-- How such a body ends. -/
def fallsOff (R : World → Prop) : Exit → Act → World → Prop
  | .normal, _, W => R W
  | _, _, _ => False

/-- An iterator that calls yield for each of its things in order, as long as yield says true. -/
def IterAll {α : Type} (n : Nat) (P : Program) (gf : Nat) (lb : Array Value) (encs : α → Array Value) (Bn : Nat) (S : List α → Prop) (N : Nat) (w : World) : Prop :=
  ∀ (l : Nat) (J : List α → World → Prop) (W : World), Below w.heap.size w W →
    (∀ pre x W1, J pre W1 → pre.length < N → YieldAt Fence.wide (n - 1) P l (encs x) W1 fun e W' => e = .returned (.bool true) ∧ J (pre ++ [x]) W' ∧ KeepB Bn W1 W') → J [] W →
    CallsIn Fence.wide n P gf (#[.func (.yield l) #[] #[]] ++ lb) W fun e W' => (∃ v, e = .returned v) ∧ ∃ xs, S xs ∧ J xs W'

theorem range_all {α : Type} {P : Program} {n : Nat} {g : Operand} {ps : Array Tmp} {assign body : Code} {Q : Exit → Act → World → Prop} {a : Act} {w : World} {gf : Nat} {lb : Array Value} {encs : α → Array Value} {N Bn : Nat} {S : List α → Prop}
    (hg : a.eval g = .func (.func gf) #[] lb) (eg : ∀ args w, (callFunc gf args).run P w = .ok (.enter gf args) w) (hps : ∀ x, (encs x).size = ps.size) (hBn : Bn < w.heap.size)
    (hiter : IterAll (n - 1) P gf lb encs Bn S N w)
    (I : List α → World → Prop) (hI : ∀ pre W l r o', I pre W → w.heap.size ≤ l → W.heap[l]? = some (.loop r) → I pre (W.putObj l o')) (hIa : ∀ W o, I [] W → I [] (W.alloc o)) (h0 : I [] w) (a₁ : α → Act)
    (hassign : ∀ (l : Nat) (x : α) (W : World) (K : Act → World → Prop), K (a₁ x) W → assign.wpIn (Fence.wide.inRound l) (n - 1 - 1) P (Exit.then K (fun _ _ _ => False)) { tmps := (ps.zip (encs x)).foldl (fun t (p, v) => t.setIfInBounds p v) a.tmps, defers := [] } W)
    (hbody : ∀ (l : Nat) (pre : List α) (x : α) (W : World), I pre W → pre.length < N → body.wpIn (Fence.wide.inRound l) (n - 1 - 1) P (fallsOff fun W' => KeepsFrom w.heap.size W W' ∧ KeepB Bn W W' ∧ I (pre ++ [x]) W') (a₁ x) W)
    (hdone : ∀ (D : Nat) (xs : List α) (W : World), w.heap.size ≤ D → S xs → I xs W → W.heap[D]? = some (.deferred (some [])) → Q .normal { a with defers := { target := .collected D, args := #[] } :: a.defers } W) :
    (Code.rangeFunc g ps assign body).wpIn Fence.wide n P Q a w := by
  apply wpIn_rangeFunc
  intro fn _
  -- the record of the loop, by its state
  obtain ⟨mk, hmk⟩ : ∃ mk : LoopState → Loop, mk = fun st => { state := st, pending := none, fn, tmps := a.tmps, params := ps, assign, body, defers := w.heap.size } := ⟨_, rfl⟩
  obtain ⟨V, hV⟩ : ∃ V, V = (w.alloc (.deferred (some []))).alloc (.loop (mk .ready)) := ⟨_, rfl⟩
  have hbV : Below w.heap.size w V := by rw [hV]; exact ((Below.refl _ w).alloc (Nat.le_refl _) _).alloc (by simp) _
  have hIV : I [] V := by rw [hV]; exact hIa _ _ (hIa _ _ h0)
  have hVl : V.heap[w.heap.size + 1]? = some (.loop (mk .ready)) := by
    have e := World.alloc_heap_new (w.alloc (.deferred (some []))) (.loop (mk .ready))
    rw [World.size_alloc] at e
    rw [hV]; exact e
  have hVd : V.heap[w.heap.size]? = some (.deferred (some [])) := by
    rw [hV]; exact (Below.heap_alloc _ _ _ (by simp)).trans (World.alloc_heap_new w _)
  refine ⟨w.heap.size + 1, [{ target := .collected w.heap.size, args := #[] }], V, { target := .fn (.func gf) lb, args := #[.func (.yield (w.heap.size + 1)) #[] #[]] }, V, gf, #[.func (.yield (w.heap.size + 1)) #[] #[]] ++ lb, V, ?_, ?_, fun _ _ => trivial, ?_, wide_room, ?_⟩
  · rw [hV, hmk]; exact run_enterLoop_outer _ _ _ _ _
  · simp only [resolve, hg]; simp [go_sem]
  · simp [invoke, go_sem, eg]
  · refine (hiter (w.heap.size + 1) (fun pre W => I pre W ∧ W.heap[w.heap.size + 1]? = some (.loop (mk .ready)) ∧ W.heap[w.heap.size]? = some (.deferred (some []))) V hbV ?_ ⟨hIV, hVl, hVd⟩).mono ?_
    · rintro pre x W ⟨hi, hl, hd⟩ hlen
      have hy := run_yield (P := P) (args := encs x) hl (by rw [hmk]; exact hps x)
      rw [hmk] at hy
      refine ⟨fn, _, assign, body, hy, roundIn_of_wpIn trivial (hassign _ x W _ ⟨_, run_beginRound hl (by rw [hmk]), ?_⟩)⟩
      clear hy
      obtain ⟨X, hX⟩ : ∃ X, X = W.putObj (w.heap.size + 1) (.loop { mk .ready with state := .busy }) := ⟨_, rfl⟩
      rw [← hX]
      have hlt : w.heap.size + 1 < W.heap.size := (Array.getElem?_eq_some_iff.1 hl).1
      have hXl : X.heap[w.heap.size + 1]? = some (.loop { mk .ready with state := .busy }) := by rw [hX]; exact World.putObj_heap_same hlt
      have hXd : X.heap[w.heap.size]? = some (.deferred (some [])) := by rw [hX]; exact (World.putObj_heap_other (by omega)).trans hd
      have hXb : X.heap[Bn]? = W.heap[Bn]? := by rw [hX]; exact World.putObj_heap_other (by omega)
      have hXi : I pre X := by rw [hX]; exact hI _ _ _ _ _ hi (by omega) hl
      refine wpIn_mono (hbody _ pre x X hXi hlen) ?_
      intro e a3 Y hp
      cases e with
      | normal =>
        obtain ⟨hk, hb, hi3⟩ := hp
        have hYl := hk.same _ _ (by omega) hXl rfl
        have hYd := hk.same _ _ (Nat.le_refl _) hXd rfl
        have hend := run_endRound (P := P) none hYl
        refine ⟨_, _, hend, rfl, ⟨hI _ _ _ _ _ hi3 (by omega) hYl, ?_, (World.putObj_heap_other (by omega)).trans hYd⟩, ?_⟩
        · rw [World.putObj_heap_same (Array.getElem?_eq_some_iff.1 hYl).1, hmk]; rfl
        · exact ((World.putObj_heap_other (by omega)).trans hb).trans hXb
      | ret => exact hp.elim
      | exit id => exact hp.elim
      | goto t => exact hp.elim
      | panic ch => exact hp.elim
      | outgrown => exact hp.elim
    · rintro e W ⟨⟨v, rfl⟩, xs, hS, hi, hl, hd⟩
      have hend : (Instr.endLoop (w.heap.size + 1)).run P W = .ok none (W.putObj (w.heap.size + 1) (.loop { mk .ready with state := .exhausted })) := by
        have := run_endLoop (P := P) hl (by rw [hmk]; simp)
        rw [hmk] at this ⊢
        exact this
      exact ⟨none, _, hend, hdone _ xs _ (Nat.le_refl _) hS (hI _ _ _ _ _ hi (by omega) hl) ((World.putObj_heap_other (by omega)).trans hd)⟩

theorem toks_all (n Bn : Nat) (p : ByteArray) (w : World) (hp : p.size ≤ 1000) (hBn : Bn < w.heap.size) (hc : w.cell? ⟨Bn, 0, none⟩ = some (.string p)) :
    IterAll n Try.prog 52 #[.pointer (some ⟨Bn, 0, none⟩)] (fun x : Tok => #[Value.string x.1]) Bn (fun ys => vals ys = toksAt p 0) (toksAt p 0).length w := by
  intro l J W hW hY h0
  refine (toks_in n l Bn p J (fun _ _ => False) hp (fun pre x W1 h1 h2 => (hY pre x W1 h1 h2).mono (fun _ _ h => .inl h)) W ((hW.cell (p := ⟨Bn, 0, none⟩) hBn).trans hc) h0).mono ?_
  rintro e W' ⟨hv, ⟨ys, h1, h2⟩ | ⟨_, _, h⟩⟩
  · exact ⟨hv, ys, h1, h2⟩
  · exact h.elim
end Go.Proofs.Ythembgllkfgknaa
