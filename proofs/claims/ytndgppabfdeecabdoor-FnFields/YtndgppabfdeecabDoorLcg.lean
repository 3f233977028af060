/- The numbers of the draws, h := h*a + c modulo 2^64 with a = 1 modulo 4 and c odd, meet every number within 2^64 steps; so wherever they stand, three values in a row come that are 0, 3 or 4 modulo 5. Plain numbers only. -/
import Derived.Test.YtndgppabfdeecabDoorCom
namespace Go.Proofs.YtndgppabfdeecabDoor

section
variable (f : Nat → Nat)
def lit : Nat → Nat → Nat
  | 0, x => x
  | t + 1, x => lit t (f x)
theorem lit_zero (x : Nat) : lit f 0 x = x := rfl
theorem lit_succ (t x : Nat) : lit f (t + 1) x = lit f t (f x) := rfl
theorem lit_add (s t x : Nat) : lit f (s + t) x = lit f t (lit f s x) := by
  induction s generalizing x with
  | zero => rw [Nat.zero_add, lit_zero]
  | succ s ih => rw [show s + 1 + t = (s + t) + 1 from by omega, lit_succ, ih, lit_succ]
theorem lit_lt {M : Nat} (hf : ∀ x, f x < M) {x : Nat} (h : x < M) (t : Nat) : lit f t x < M := by
  induction t generalizing x with
  | zero => exact h
  | succ t ih => rw [lit_succ]; exact ih (hf x)
theorem twice (M p m q x : Nat) : ((1 + 4 * p * m) * (((1 + 4 * p * m) * x + p * (1 + 2 * q)) % M) + p * (1 + 2 * q)) % M = ((1 + 8 * p * (m + 2 * p * m * m)) * x + 2 * p * (1 + 2 * (q + p * m + 2 * p * q * m))) % M := by
  rw [Nat.add_mod, Nat.mul_mod, Nat.mod_mod, ← Nat.mul_mod, ← Nat.add_mod]
  congr 1
  grind
theorem doubled {M m0 q0 : Nat} (hf : ∀ x, f x = ((1 + 4 * m0) * x + (1 + 2 * q0)) % M) (k : Nat) : ∃ m q, ∀ x, lit f (2 ^ k) x % M = ((1 + 4 * 2 ^ k * m) * x + 2 ^ k * (1 + 2 * q)) % M := by
  induction k with
  | zero =>
    refine ⟨m0, q0, fun x => ?_⟩
    rw [show (2 : Nat) ^ 0 = 0 + 1 from rfl, lit_succ, lit_zero, hf, Nat.mod_mod]
    congr 1
    grind
  | succ k ih =>
    obtain ⟨m, q, h⟩ := ih
    refine ⟨m + 2 * 2 ^ k * m * m, q + 2 ^ k * m + 2 * 2 ^ k * q * m, fun x => ?_⟩
    have e : 2 ^ (k + 1) = 2 ^ k + 2 ^ k := by rw [Nat.pow_succ]; omega
    have t := twice M (2 ^ k) m q x
    rw [← h x] at t
    have h2 := h (lit f (2 ^ k) x)
    have e3 : ((1 + 4 * 2 ^ k * m) * (lit f (2 ^ k) x % M) + 2 ^ k * (1 + 2 * q)) % M = ((1 + 4 * 2 ^ k * m) * lit f (2 ^ k) x + 2 ^ k * (1 + 2 * q)) % M := by
      rw [Nat.add_mod, Nat.mul_mod, Nat.mod_mod, ← Nat.mul_mod, ← Nat.add_mod]
    rw [e3, ← h2] at t
    rw [e, lit_add, t]
    congr 1
    grind
theorem bit_up (p x : Nat) (hp : 0 < p) : (x + p) % (p * 2) = x % p + p * ((x / p + 1) % 2) := by
  rw [Nat.mod_mul, Nat.add_mod_right, Nat.add_div_right _ hp]
theorem flips {N m0 q0 : Nat} (hf : ∀ x, f x = ((1 + 4 * m0) * x + (1 + 2 * q0)) % 2 ^ N) (k : Nat) (hk : k < N) (z : Nat) : lit f (2 ^ k) z % (2 ^ k * 2) = (z + 2 ^ k) % (2 ^ k * 2) := by
  obtain ⟨m, q, h⟩ := doubled f hf k
  have hd : 2 ^ k * 2 ∣ 2 ^ N := by
    rw [← Nat.pow_succ]
    exact Nat.pow_dvd_pow 2 (by omega)
  have h1 := congrArg (· % (2 ^ k * 2)) (h z)
  simp only [Nat.mod_mod_of_dvd _ hd] at h1
  rw [h1]
  have e : (1 + 4 * 2 ^ k * m) * z + 2 ^ k * (1 + 2 * q) = (z + 2 ^ k) + (2 ^ k * 2) * (2 * m * z + q) := by grind
  rw [e, Nat.add_mul_mod_self_left]
theorem meets {N m0 q0 : Nat} (hf : ∀ x, f x = ((1 + 4 * m0) * x + (1 + 2 * q0)) % 2 ^ N) (k : Nat) (hk : k ≤ N) (x y : Nat) : ∃ t, t < 2 ^ k ∧ lit f t x % 2 ^ k = y % 2 ^ k := by
  induction k with
  | zero => exact ⟨0, by simp, by simp [Nat.mod_one]⟩
  | succ k ih =>
    obtain ⟨t, ht, h⟩ := ih (by omega)
    have hp : 0 < 2 ^ k := Nat.pos_of_ne_zero (by simp)
    rw [Nat.pow_succ]
    by_cases hb : lit f t x / 2 ^ k % 2 = y / 2 ^ k % 2
    · refine ⟨t, by omega, ?_⟩
      rw [Nat.mod_mul, Nat.mod_mul, h, hb]
    · refine ⟨t + 2 ^ k, by omega, ?_⟩
      rw [lit_add, flips f hf k (by omega), bit_up _ _ hp, Nat.mod_mul, h]
      congr 2
      omega
theorem reach {N m0 q0 : Nat} (hf : ∀ x, f x = ((1 + 4 * m0) * x + (1 + 2 * q0)) % 2 ^ N) (x y : Nat) (hx : x < 2 ^ N) (hy : y < 2 ^ N) : ∃ t, t < 2 ^ N ∧ lit f t x = y := by
  obtain ⟨t, ht, h⟩ := meets f hf N (Nat.le_refl _) x y
  have hl : ∀ x, f x < 2 ^ N := fun x => by rw [hf]; exact Nat.mod_lt _ (Nat.pos_of_ne_zero (by simp))
  rw [Nat.mod_eq_of_lt (lit_lt f hl hx t), Nat.mod_eq_of_lt hy] at h
  exact ⟨t, ht, h⟩

theorem least (P : Nat → Prop) (t : Nat) (h : P t) : ∃ n, n ≤ t ∧ P n ∧ ∀ m, P m → n ≤ m := by
  induction t using Nat.strongRecOn with
  | ind t ih =>
    by_cases hm : ∃ m, m < t ∧ P m
    · obtain ⟨m, hmt, hp⟩ := hm
      obtain ⟨n, hn, h2⟩ := ih m hmt hp
      exact ⟨n, by omega, h2⟩
    · exact ⟨t, Nat.le_refl _, h, fun m hp => by
        rcases Nat.lt_or_ge m t with h' | h'
        · exact absurd ⟨m, h', hp⟩ hm
        · exact h'⟩

/-- How far it is to three numbers in a row that have G, and nought where this one has it. -/
theorem dist_exists (G : Nat → Prop) {N m0 q0 : Nat} (hf : ∀ x, f x = ((1 + 4 * m0) * x + (1 + 2 * q0)) % 2 ^ N) (s : Nat) (hs : s < 2 ^ N) (g0 : G s) (g1 : G (f s)) (g2 : G (f (f s))) :
    ∃ d : Nat → Nat, (∀ x, d x ≤ 2 ^ N) ∧ ∀ x, x < 2 ^ N → ¬ G x → d (f x) < d x ∧ d (f (f (f x))) < d x := by
  have hl : ∀ x, f x < 2 ^ N := fun x => by rw [hf]; exact Nat.mod_lt _ (Nat.pos_of_ne_zero (by simp))
  have key : ∀ x, ∃ n, n ≤ 2 ^ N ∧ (x < 2 ^ N → (G (lit f n x) ∧ G (lit f (n + 1) x) ∧ G (lit f (n + 2) x)) ∧ ∀ m, G (lit f m x) ∧ G (lit f (m + 1) x) ∧ G (lit f (m + 2) x) → n ≤ m) := by
    intro x
    by_cases hx : x < 2 ^ N
    · obtain ⟨t, ht, hr⟩ := reach f hf x s hx hs
      have hP : G (lit f t x) ∧ G (lit f (t + 1) x) ∧ G (lit f (t + 2) x) := by
        rw [lit_add, lit_add, hr]
        exact ⟨g0, g1, g2⟩
      obtain ⟨n, hn, h2, h3⟩ := least (fun t => G (lit f t x) ∧ G (lit f (t + 1) x) ∧ G (lit f (t + 2) x)) t hP
      exact ⟨n, by omega, fun _ => ⟨h2, h3⟩⟩
    · exact ⟨0, Nat.zero_le _, fun h => absurd h hx⟩
  have : ∃ e : Nat → Nat, ∀ x, e x ≤ 2 ^ N ∧ (x < 2 ^ N → (G (lit f (e x) x) ∧ G (lit f (e x + 1) x) ∧ G (lit f (e x + 2) x)) ∧ ∀ m, G (lit f m x) ∧ G (lit f (m + 1) x) ∧ G (lit f (m + 2) x) → e x ≤ m) :=
    ⟨fun x => Classical.choose (key x), fun x => Classical.choose_spec (key x)⟩
  obtain ⟨e, he⟩ := this
  classical
  refine ⟨fun x => if G x then 0 else e x, fun x => ?_, fun x hx hg => ?_⟩
  · show (if G x then 0 else e x) ≤ _
    split
    · exact Nat.zero_le _
    · exact (he x).1
  · have h1 := (he x).2 hx
    have hpos : 0 < e x := by
      rcases Nat.eq_zero_or_pos (e x) with h | h
      · have := h1.1.1
        rw [h, lit_zero] at this
        exact absurd this hg
      · exact h
    have up : ∀ y, y < 2 ^ N → ∀ j, j ≤ e x → (∀ t, lit f t y = lit f (t + j) x) → e y ≤ e x - j := by
      intro y hy j hj ht
      refine ((he y).2 hy).2 _ ?_
      rw [ht, ht, ht, show e x - j + j = e x from by omega, show e x - j + 1 + j = e x + 1 from by omega, show e x - j + 2 + j = e x + 2 from by omega]
      exact h1.1
    have s1 : ∀ t, lit f t (f x) = lit f (t + 1) x := fun t => rfl
    have s3 : ∀ t, lit f t (f (f (f x))) = lit f (t + 3) x := fun t => rfl
    show (if G (f x) then 0 else e (f x)) < (if G x then 0 else e x) ∧ (if G (f (f (f x))) then 0 else e (f (f (f x)))) < (if G x then 0 else e x)
    rw [if_neg hg]
    constructor
    · split
      · exact hpos
      · have := up (f x) (hl _) 1 (by omega) s1
        omega
    · split
      · exact hpos
      · rename_i hg3
        have hg3' : ¬ G (lit f 3 x) := hg3
        have h3 : 3 ≤ e x := by
          rcases Nat.lt_or_ge (e x) 3 with h | h
          · have h2 := h1.1
            rcases (show e x = 1 ∨ e x = 2 from by omega) with h' | h'
            · rw [h'] at h2; exact absurd h2.2.2 hg3'
            · rw [h'] at h2; exact absurd h2.2.1 hg3'
          · exact h
        have := up (f (f (f x))) (hl _) 3 h3 s3
        omega
end

/-- The step of the draws and the value drawn. -/
@[irreducible] def lcg (x : Nat) : Nat := (6364136223846793005 * x + 1442695040888963407) % 18446744073709551616
@[irreducible] def lval (x : Nat) : Nat := ((x >>> 33) ^^^ (x >>> 45)) % 256
def Good (x : Nat) : Prop := lval (lcg x) % 5 = 0 ∨ 3 ≤ lval (lcg x) % 5
theorem lcg_dist : ∃ d : Nat → Nat, (∀ x, d x ≤ 18446744073709551616) ∧ ∀ x, x < 18446744073709551616 → ¬ Good x → d (lcg x) < d x ∧ d (lcg (lcg (lcg x))) < d x := by
  have e : (2 : Nat) ^ 64 = 18446744073709551616 := by decide
  have l8 : lcg 8 = 15462296684244204215 := by unfold lcg; decide
  have l9 : lcg 15462296684244204215 = 6702960577162501242 := by unfold lcg; decide
  have l10 : lcg 6702960577162501242 = 17517247565624232129 := by unfold lcg; decide
  have h := dist_exists lcg Good (N := 64) (m0 := 1591034055961698251) (q0 := 721347520444481703) (fun x => by unfold lcg; rw [e]) 8 (by rw [e]; decide)
    (by unfold Good; rw [l8]; unfold lval; decide) (by unfold Good; rw [l8, l9]; unfold lval; decide) (by unfold Good; rw [l8, l9, l10]; unfold lval; decide)
  rw [e] at h
  exact h
end Go.Proofs.YtndgppabfdeecabDoor
